/- Merged: OfP, OfF. -/
import Derived.Test.YtmffcicpiialcaaGreatDoorTdSOfX0
import Derived.Test.YtmffcicpiialcaaGreatDoorTd30
import Derived.Test.YtmffcicpiialcaaGreatDoorTd9
import Derived.Test.YtmffcicpiialcaaGreatDoorTd10
import Derived.Test.YtmffcicpiialcaaGreatDoorTd23
namespace Go.Proofs.YtmffcicpiialcaaGreatDoor
open Go.RowKit

/-- The tree of a simple term. -/
def Ty.otree : Ty → Tree
  | .bit => .atom str0
  | .pair a b => .node [.atom strPair, a.otree, b.otree]
  | .thunk c => .node [.atom strThunk, c.otree]
  | .ret a => .node [.atom strReturn, a.otree]
  | .fn a c => .node [.atom strLam, .atom strX, a.tree, c.otree]
  | .choice c d => .node [.atom strBoth, c.otree, d.otree]
theorem otree_write : ∀ t : Ty, t.otree.write = t.simp.write
  | .bit => by rw [simp_bit]; rfl
  | .pair a b => by rw [simp_pair, ← otree_write a, ← otree_write b]; simp [Ty.otree, Tree.write, Tree.writes, strPair]
  | .thunk c => by rw [simp_thunk, ← otree_write c]; simp [Ty.otree, Tree.write, Tree.writes, strThunk]
  | .ret a => by rw [simp_ret, ← otree_write a]; simp [Ty.otree, Tree.write, Tree.writes, strReturn]
  | .fn a c => by rw [simp_fn, ← otree_write c, ← ty_tree_write a]; simp [Ty.otree, Tree.write, Tree.writes, strLam, strX]
  | .choice c d => by rw [simp_choice, ← otree_write c, ← otree_write d]; simp [Ty.otree, Tree.write, Tree.writes, strBoth]
theorem otree_wk : ∀ t : Ty, t.otree.wk
  | .bit => by simp [Ty.otree, Tree.wk, str0]; decide
  | .pair a b => by
    have h1 := otree_wk a
    have h2 := otree_wk b
    simp [Ty.otree, Tree.wk, Tree.wks, h1, h2, strPair]; decide
  | .thunk c => by have h1 := otree_wk c; simp [Ty.otree, Tree.wk, Tree.wks, h1, strThunk]; decide
  | .ret a => by have h1 := otree_wk a; simp [Ty.otree, Tree.wk, Tree.wks, h1, strReturn]; decide
  | .fn a c => by
    have h1 := tree_wk a
    have h2 := otree_wk c
    simp [Ty.otree, Tree.wk, Tree.wks, h1, h2, strLam, strX]; decide
  | .choice c d => by
    have h1 := otree_wk c
    have h2 := otree_wk d
    simp [Ty.otree, Tree.wk, Tree.wks, h1, h2, strBoth]; decide
theorem maxE (x y : Nat) : Nat.max x y = max x y := rfl
theorem otree_dp : ∀ t : Ty, t.otree.dp ≤ t.atoms + 1
  | .bit => by simp [Ty.otree, Tree.dp]
  | .pair a b => by
    have h1 := otree_dp a
    have h2 := otree_dp b
    have p1 := atoms_pos a
    have p2 := atoms_pos b
    simp only [Ty.otree, Tree.dp, Tree.dps, Ty.atoms, maxE]; omega
  | .thunk c => by have h1 := otree_dp c; have p1 := atoms_pos c; simp only [Ty.otree, Tree.dp, Tree.dps, Ty.atoms, maxE]; omega
  | .ret a => by have h1 := otree_dp a; have p1 := atoms_pos a; simp only [Ty.otree, Tree.dp, Tree.dps, Ty.atoms, maxE]; omega
  | .fn a c => by
    have h1 := tree_dp a
    have h2 := otree_dp c
    have p1 := atoms_pos a
    have p2 := atoms_pos c
    simp only [Ty.otree, Tree.dp, Tree.dps, Ty.atoms, maxE]; omega
  | .choice c d => by
    have h1 := otree_dp c
    have h2 := otree_dp d
    have p1 := atoms_pos c
    have p2 := atoms_pos d
    simp only [Ty.otree, Tree.dp, Tree.dps, Ty.atoms, maxE]; omega
theorem otree_size : ∀ t : Ty, t.otree.size ≤ 3 * t.atoms
  | .bit => by simp [Ty.otree, Tree.size, Ty.atoms]
  | .pair a b => by have h1 := otree_size a; have h2 := otree_size b; simp only [Ty.otree, Tree.size, Tree.sizes, Ty.atoms]; omega
  | .thunk c => by have h1 := otree_size c; simp only [Ty.otree, Tree.size, Tree.sizes, Ty.atoms]; omega
  | .ret a => by have h1 := otree_size a; simp only [Ty.otree, Tree.size, Tree.sizes, Ty.atoms]; omega
  | .fn a c => by have h1 := ty_tree_size a; have h2 := otree_size c; simp only [Ty.otree, Tree.size, Tree.sizes, Ty.atoms]; omega
  | .choice c d => by have h1 := otree_size c; have h2 := otree_size d; simp only [Ty.otree, Tree.size, Tree.sizes, Ty.atoms]; omega
theorem simp_isVal : ∀ t : Ty, t.simp.isVal = t.isVal
  | .bit => by rw [Ty.simp, Tm.isVal, strBit_toList]; rfl
  | .pair a b => by rw [Ty.simp, Tm.isVal, strPair_l]; rfl
  | .thunk c => by rw [Ty.simp, Tm.isVal, strThunk_l]; rfl
  | .ret a => by rw [Ty.simp, Tm.isVal, strReturn_l]; rfl
  | .fn a c => by rw [Ty.simp, Tm.isVal, strLam_l]; rfl
  | .choice c d => by rw [Ty.simp, Tm.isVal, strBoth_l]; rfl
theorem addK_in {v : Bool} {m : Tm} {st : St} (h : m.isVal = v) : addK v (some m) st = some { st with kids := st.kids ++ [m] } := by
  unfold addK; exact if_pos h
theorem tyLim_tree {t : Ty} (h : t.good) : tyLim t.tree = some t := by
  unfold tyLim
  rw [if_pos (by rw [ty_tree_size]; exact h.2)]
  exact tree_ty t h.1
theorem otree_tm : ∀ (t : Ty), t.good → ∀ ar, t.otree.tm ar = some t.simp
  | .bit, _, ar => by
    rw [Ty.otree, Tree.tm, atomTm, str0_l, if_pos (Or.inl rfl)]; rfl
  | .pair a b, hg, ar => by
    obtain ⟨ha, hb, va, vb⟩ : a.good ∧ b.good ∧ a.isVal = true ∧ b.isVal = true := by
      have h1 := hg.1; have h2 := hg.2
      simp only [Ty.wf, Bool.and_eq_true] at h1
      simp only [Ty.atoms] at h2
      exact ⟨⟨h1.1.1.1, by omega⟩, ⟨h1.1.1.2, by omega⟩, h1.1.2, h1.2⟩
    rw [Ty.otree, Tree.tm, show (Tree.atom strPair).text = strPair from rfl, strPair_l, show shape [112, 97, 105, 114] = [.V, .V] from rfl, if_neg (by simp)]
    simp only [Tree.parts, otree_tm a ha, otree_tm b hb]
    rw [addK_in (by rw [simp_isVal]; exact va)]
    simp only
    rw [addK_in (by rw [simp_isVal]; exact vb)]
    rfl
  | .thunk c, hg, ar => by
    obtain ⟨hc, vc⟩ : c.good ∧ c.isVal = false := by
      have h1 := hg.1; have h2 := hg.2
      simp only [Ty.wf, Bool.and_eq_true] at h1
      simp only [Ty.atoms] at h2
      exact ⟨⟨h1.1, by omega⟩, by simpa using h1.2⟩
    rw [Ty.otree, Tree.tm, show (Tree.atom strThunk).text = strThunk from rfl, strThunk_l, show shape [116, 104, 117, 110, 107] = [.M] from rfl, if_neg (by simp)]
    simp only [Tree.parts, otree_tm c hc]
    rw [addK_in (by rw [simp_isVal]; exact vc)]
    rfl
  | .ret a, hg, ar => by
    obtain ⟨ha, va⟩ : a.good ∧ a.isVal = true := by
      have h1 := hg.1; have h2 := hg.2
      simp only [Ty.wf, Bool.and_eq_true] at h1
      simp only [Ty.atoms] at h2
      exact ⟨⟨h1.1, by omega⟩, h1.2⟩
    rw [Ty.otree, Tree.tm, show (Tree.atom strReturn).text = strReturn from rfl, strReturn_l, show shape [114, 101, 116, 117, 114, 110] = [.V] from rfl, if_neg (by simp)]
    simp only [Tree.parts, otree_tm a ha]
    rw [addK_in (by rw [simp_isVal]; exact va)]
    rfl
  | .fn a c, hg, ar => by
    obtain ⟨ha, hc, va, vc⟩ : a.good ∧ c.good ∧ a.isVal = true ∧ c.isVal = false := by
      have h1 := hg.1; have h2 := hg.2
      simp only [Ty.wf, Bool.and_eq_true] at h1
      simp only [Ty.atoms] at h2
      exact ⟨⟨h1.1.1.1, by omega⟩, ⟨h1.1.1.2, by omega⟩, h1.1.2, by simpa using h1.2⟩
    rw [Ty.otree, Tree.tm, show (Tree.atom strLam).text = strLam from rfl, strLam_l, show shape [108, 97, 109] = [.X, .A, .M] from rfl, if_neg (by simp)]
    have hx : addX (Tree.atom strX).text St.none = some ⟨[strX], none, []⟩ := by
      rw [addX, if_pos]; rfl
      refine ⟨?_, by simp [St.none]⟩
      show nameB strX.toList = true
      rw [show strX.toList = [120] by rw [Go.ByteArray.toList_eq]; rfl]; decide
    simp only [Tree.parts, hx, otree_tm c hc]
    have hat : addT true a.tree ⟨[strX], none, []⟩ = some ⟨[strX], some a, []⟩ := by
      unfold addT; rw [tyLim_tree ha]; simp [va]
    rw [hat]
    simp only
    rw [addK_in (by rw [simp_isVal]; exact vc)]
    rfl
  | .choice c d, hg, ar => by
    obtain ⟨hc, hd, vc, vd⟩ : c.good ∧ d.good ∧ c.isVal = false ∧ d.isVal = false := by
      have h1 := hg.1; have h2 := hg.2
      simp only [Ty.wf, Bool.and_eq_true] at h1
      simp only [Ty.atoms] at h2
      exact ⟨⟨h1.1.1.1, by omega⟩, ⟨h1.1.1.2, by omega⟩, by simpa using h1.1.2, by simpa using h1.2⟩
    rw [Ty.otree, Tree.tm, show (Tree.atom strBoth).text = strBoth from rfl, strBoth_l, show shape [98, 111, 116, 104] = [.M, .M] from rfl, if_neg (by simp)]
    simp only [Tree.parts, otree_tm c hc, otree_tm d hd]
    rw [addK_in (by rw [simp_isVal]; exact vc)]
    simp only
    rw [addK_in (by rw [simp_isVal]; exact vd)]
    rfl
/-- A SIMPLE TERM'S TEXT IS READ AS IT. -/
theorem sw_read {t : Ty} (h : t.good) : readTm (SW t) = some t.simp := by
  have h1 : (SW t).data.toList = t.otree.write := by rw [otree_write]; rfl
  have hd := otree_dp t
  have hz := otree_size t
  have hl := simp_len t
  have hp := parse_back h1 (otree_wk t) (by have := h.2; omega) (by rw [otree_write]; have := h.2; omega)
  unfold readTm
  rw [hp]
  simp only
  rw [if_pos (by have := h.2; omega)]
  exact otree_tm t h []
theorem limT_good {t : Ty} (h : t.atoms ≤ 12) : limT (some t) = some t := by rw [limT, if_pos h]
theorem simp_typ : ∀ (t : Ty), t.good → ∀ env, t.simp.typ env = some t
  | .bit, _, env => by rw [Ty.simp, Tm.typ, Tm.typs, strBit_toList]; rfl
  | .pair a b, hg, env => by
    obtain ⟨ha, hb⟩ : a.good ∧ b.good := by
      have h1 := hg.1; have h2 := hg.2
      simp only [Ty.wf, Bool.and_eq_true] at h1
      simp only [Ty.atoms] at h2
      exact ⟨⟨h1.1.1.1, by omega⟩, ⟨h1.1.1.2, by omega⟩⟩
    have e1 := simp_typ a ha
    have e2 := simp_typ b hb
    rw [Ty.simp, Tm.typ, strPair_l]
    simp only [Tm.typs, List.isEmpty_cons, List.isEmpty_nil, if_true, Bool.false_eq_true, if_false, e1, e2, List.nil_append, bndT]
    exact limT_good hg.2
  | .thunk c, hg, env => by
    have hc : c.good := by
      have h1 := hg.1; have h2 := hg.2
      simp only [Ty.wf, Bool.and_eq_true] at h1
      simp only [Ty.atoms] at h2
      exact ⟨h1.1, by omega⟩
    have e1 := simp_typ c hc
    rw [Ty.simp, Tm.typ, strThunk_l]
    simp only [Tm.typs, List.isEmpty_nil, if_true, e1, List.nil_append, bndT]
    exact limT_good hg.2
  | .ret a, hg, env => by
    have hc : a.good := by
      have h1 := hg.1; have h2 := hg.2
      simp only [Ty.wf, Bool.and_eq_true] at h1
      simp only [Ty.atoms] at h2
      exact ⟨h1.1, by omega⟩
    have e1 := simp_typ a hc
    rw [Ty.simp, Tm.typ, strReturn_l]
    simp only [Tm.typs, List.isEmpty_nil, if_true, e1, List.nil_append, bndT]
    exact limT_good hg.2
  | .fn a c, hg, env => by
    have hc : c.good := by
      have h1 := hg.1; have h2 := hg.2
      simp only [Ty.wf, Bool.and_eq_true] at h1
      simp only [Ty.atoms] at h2
      exact ⟨h1.1.1.2, by omega⟩
    have e1 := simp_typ c hc
    rw [Ty.simp, Tm.typ, strLam_l]
    simp only [Tm.typs, List.isEmpty_nil, if_true, e1, List.nil_append, bndT]
    exact limT_good hg.2
  | .choice c d, hg, env => by
    obtain ⟨ha, hb⟩ : c.good ∧ d.good := by
      have h1 := hg.1; have h2 := hg.2
      simp only [Ty.wf, Bool.and_eq_true] at h1
      simp only [Ty.atoms] at h2
      exact ⟨⟨h1.1.1.1, by omega⟩, ⟨h1.1.1.2, by omega⟩⟩
    have e1 := simp_typ c ha
    have e2 := simp_typ d hb
    rw [Ty.simp, Tm.typ, strBoth_l]
    simp only [Tm.typs, List.isEmpty_cons, List.isEmpty_nil, if_true, Bool.false_eq_true, if_false, e1, e2, List.nil_append, bndT]
    exact limT_good hg.2
theorem simp_pure : ∀ t : Ty, t.simp.pure = true
  | .bit => by rw [Ty.simp, Tm.pure, strBit_toList]; rfl
  | .pair a b => by rw [Ty.simp, Tm.pure, strPair_l, Tm.pures, Tm.pures, Tm.pures, simp_pure a, simp_pure b]; rfl
  | .thunk c => by rw [Ty.simp, Tm.pure, strThunk_l, Tm.pures, Tm.pures, simp_pure c]; rfl
  | .ret a => by rw [Ty.simp, Tm.pure, strReturn_l, Tm.pures, Tm.pures, simp_pure a]; rfl
  | .fn a c => by rw [Ty.simp, Tm.pure, strLam_l, Tm.pures, Tm.pures, simp_pure c]; rfl
  | .choice c d => by rw [Ty.simp, Tm.pure, strBoth_l, Tm.pures, Tm.pures, Tm.pures, simp_pure c, simp_pure d]; rfl
/-- What the program tells of the text of a simple term. -/
theorem sw_all {t : Ty} (h : t.good) : typOf [] [] (SW t) = some t ∧ (∀ m, readTm (SW t) = some m → m.pure = true) := by
  have hr := sw_read h
  have henv : envOf [] [] = some [] := by unfold envOf; rw [if_pos ⟨rfl, by decide⟩]; rfl
  refine ⟨?_, fun m hm => ?_⟩
  · unfold typOf; rw [henv, hr]; exact simp_typ t h []
  · rw [hr] at hm; obtain rfl := Option.some.inj hm; exact simp_pure t
end Go.Proofs.YtmffcicpiialcaaGreatDoor

namespace Go.Proofs.YtmffcicpiialcaaGreatDoor
open Go.RowKit

set_option maxRecDepth 100000 in
set_option maxHeartbeats 4000000 in
theorem lawTermOfP {w : World} {p : Option Addr} {n c : Nat} {bs : List Int} (hl : bs.length = n) (hn : n ≤ 9223372036854775807) (hz : ∀ z ∈ bs, 0 ≤ z ∧ z ≤ 255) (hp : ∀ g o s, p = some ⟨g, o, s⟩ → n = 0 ∨ g < w.heap.size) (hv : Vals w p (u8s bs)) (hc : n ≤ c) :
    Calls Tryz.prog 3 #[.slice p n c] w fun e w' => e = .returned (.bool true) ∧ Below w.heap.size w w' := by
  by_cases h : n ≤ 1048576
  · have HD := hid (drawTermOf_any hl (by omega) hz hp hv hc)
    clear hl hz hp hv
    go_enter Tryz.func3, Tryz.ntmps3
    go_wp2_with fail
    go_at_call 4
    refine HD.out.mono ?_
    rintro e w1 ⟨s, rfl, hs, hb1⟩
    have HB1 := hid hb1
    have HB := hid (fun W => implTermOf_any s (by omega) W)
    have HA := hid (fun W => specTermOf_any s (by omega) W)
    clear hb1
    cases hx : readTy s with
    | none =>
      rw [hx] at HA HB
      have HB2 := hid (fun W => (show Calls Tryz.prog 5 #[.string s] W fun e w' => e = .returned (.tuple #[.string ByteArray.empty, .bool false]) ∧ Below W.heap.size W w' from HB.out W))
      have HA2 := hid (fun W => (show Calls Tryz.prog 6 #[.string s] W fun e w' => e = .returned (.tuple #[.string ByteArray.empty, .bool false]) ∧ Below W.heap.size W w' from HA.out W))
      clear hx HA HB
      go_wp2_with fail
      go_at_call 5
      refine (HB2.out _).mono ?_
      rintro e w2 ⟨rfl, hb2⟩
      go_wp2_with fail
      go_at_call 6
      refine (HA2.out _).mono ?_
      rintro e w3 ⟨rfl, hb3⟩
      go_wp2_with fail
      go_ret
      exact ⟨rfl, HB1.out.trans ((hb2.trans (hb3.mono hb2.size)).mono HB1.out.size)⟩
    | some ty =>
      have hg := readTy_good hx
      have hst : s = ty.text := bytes_of_toList (readTy_write hx)
      obtain ⟨hta, htb⟩ := sw_all hg
      have hlen := simp_len ty
      have hsz : (SW ty).size ≤ 400000000 := by rw [sw_size]; have := hg.2; omega
      rw [hx] at HA HB
      obtain ⟨r, hr⟩ : ∃ r, SW ty = r := ⟨_, rfl⟩
      have HB2 := hid (fun W => (show Calls Tryz.prog 5 #[.string s] W fun e w' => e = .returned (.tuple #[.string r, .bool true]) ∧ Below W.heap.size W w' from by rw [← hr]; exact HB.out W))
      have HA2 := hid (fun W => (show Calls Tryz.prog 6 #[.string s] W fun e w' => e = .returned (.tuple #[.string r, .bool true]) ∧ Below W.heap.size W w' from by rw [← hr]; exact HA.out W))
      rw [hr] at hta htb hsz
      have HT := hid (fun (g1 g2 : Nat) W => (show Calls Tryz.prog 7 #[.slice (some ⟨g1, 0, none⟩) 0 0, .slice (some ⟨g2, 0, none⟩) 0 0, .string r] W fun e w' => e = .returned (.tuple #[.string s, .bool true]) ∧ Below W.heap.size W w' from by
        have := implTermType_any [] [] r hsz (some ⟨g1, 0, none⟩) (some ⟨g2, 0, none⟩) 0 0 0 0 W rfl rfl (by omega) (by omega) (fun i v h => by simp at h) (fun i v h => by simp at h) (fun s h => by cases h) (fun s h => by cases h)
        unfold TypPost at this
        rw [hta] at this
        rw [hst]
        exact this))
      have HTD := hid (fun W => (show Calls Tryz.prog 8 #[.string r] W fun e w' => e = .returned (.bool true) ∧ Below W.heap.size W w' from by
        have := implTermTyped_any r hsz W
        rw [hta] at this; exact this))
      have HTP := hid (fun W => (show Calls Tryz.prog 9 #[.string r] W fun e w' => e = .returned (.bool true) ∧ Below W.heap.size W w' from by
        have := implTermPure_any r hsz W
        have hp : pureOf r = true := by
          cases hm : readTm r with
          | none =>
            unfold typOf at hta; rw [hm] at hta
            cases he : envOf [] [] <;> rw [he] at hta <;> cases hta
          | some m => rw [pureOf_some hm]; exact htb m hm
        rw [hp] at this; exact this))
      clear hx HA HB hg hst hta htb hlen hr
      go_wp2_with fail
      go_at_call 5
      refine (HB2.out _).mono ?_
      rintro e w2 ⟨rfl, hb2⟩
      have HB2' := hid (HB1.out.trans (hb2.mono HB1.out.size))
      clear hb2
      go_wp2_with fail
      go_at_call 6
      refine (HA2.out _).mono ?_
      rintro e w3 ⟨rfl, hb3⟩
      have HB3 := hid (HB2'.out.trans (hb3.mono HB2'.out.size))
      clear hb3
      go_wp2_with fail
      go_at_call 7
      refine (HT.out _ _ _).mono ?_
      rintro e w4 ⟨rfl, hb4⟩
      have HB4 := hid (((HB3.out.alloc HB3.out.size _).alloc (by have := HB3.out.size; simp; omega) _).trans (hb4.mono (by have := HB3.out.size; simp; omega)))
      clear hb4
      go_wp2_with fail
      go_at_call 8
      refine (HTD.out _).mono ?_
      rintro e w5 ⟨rfl, hb5⟩
      have HB5 := hid (HB4.out.trans (hb5.mono HB4.out.size))
      clear hb5
      go_wp2_with fail
      go_at_call 9
      refine (HTP.out _).mono ?_
      rintro e w6 ⟨rfl, hb6⟩
      have HB6 := hid (HB5.out.trans (hb6.mono HB5.out.size))
      clear hb6
      go_wp2_with fail
      go_ret
      exact ⟨rfl, HB6.out⟩
  · have h2 : 1048576 < n := by omega
    clear h hl hz hp hv
    go_enter Tryz.func3, Tryz.ntmps3
    go_wp2
    go_ret
    exact ⟨rfl, Below.refl _ _⟩
end Go.Proofs.YtmffcicpiialcaaGreatDoor
