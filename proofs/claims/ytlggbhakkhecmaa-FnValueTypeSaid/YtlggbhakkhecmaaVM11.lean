/- Merged: TvP, SrcWv, NtW, NtI, VtI. -/
import Derived.Test.YtlggbhakkhecmaaVM6
import Derived.Test.YtlggbhakkhecmaaVM7
import Derived.Test.YtlggbhakkhecmaaVMSPlainG
import Derived.Deep.RegionHeld3
import Derived.Test.YtlggbhakkhecmaaVM10
import Derived.Test.YtlggbhakkhecmaaVMSJoinX
import Derived.Test.YtlggbhakkhecmaaVM0
namespace Go.Proofs.Ytlggbhakkhecmaa
open Go.RowKit

/-- The value translation as a type. -/
def STy.vt : STy → Ty
  | .bit => .bit
  | .fn a b => .thunk (.fn a.vt (.ret b.vt))
  | .pair a b => .pair a.vt b.vt
/-- The name translation as a type. -/
def STy.nt : STy → Ty
  | .bit => .ret .bit
  | .fn a b => .fn (.thunk a.nt) b.nt
  | .pair a b => .choice a.nt b.nt
theorem vt_tree : ∀ s : STy, s.vt.tree = s.byv
  | .bit => rfl
  | .fn a b => by simp [STy.vt, STy.byv, Ty.tree, vt_tree a, vt_tree b, sFn]
  | .pair a b => by simp [STy.vt, STy.byv, Ty.tree, vt_tree a, vt_tree b, sPr]
theorem nt_tree : ∀ s : STy, s.nt.tree = s.byn
  | .bit => rfl
  | .fn a b => by simp [STy.nt, STy.byn, Ty.tree, nt_tree a, nt_tree b]
  | .pair a b => by simp [STy.nt, STy.byn, Ty.tree, nt_tree a, nt_tree b]
theorem vt_ok : ∀ s : STy, s.vt.wf = true ∧ s.vt.isVal = true
  | .bit => ⟨rfl, rfl⟩
  | .fn a b => by
    have h1 := vt_ok a; have h2 := vt_ok b
    refine ⟨?_, rfl⟩
    show ((((a.vt.wf && (b.vt.wf && b.vt.isVal)) && a.vt.isVal) && !false) && !false) = true
    rw [h1.1, h1.2, h2.1, h2.2]; rfl
  | .pair a b => by
    have h1 := vt_ok a; have h2 := vt_ok b
    refine ⟨?_, rfl⟩
    show (((a.vt.wf && b.vt.wf) && a.vt.isVal) && b.vt.isVal) = true
    rw [h1.1, h1.2, h2.1, h2.2]; rfl
theorem nt_ok : ∀ s : STy, s.nt.wf = true ∧ s.nt.isVal = false
  | .bit => ⟨rfl, rfl⟩
  | .fn a b => by
    have h1 := nt_ok a; have h2 := nt_ok b
    refine ⟨?_, rfl⟩
    show ((((a.nt.wf && !a.nt.isVal) && b.nt.wf) && true) && !b.nt.isVal) = true
    rw [h1.1, h1.2, h2.1, h2.2]; rfl
  | .pair a b => by
    have h1 := nt_ok a; have h2 := nt_ok b
    refine ⟨?_, rfl⟩
    show (((a.nt.wf && b.nt.wf) && !a.nt.isVal) && !b.nt.isVal) = true
    rw [h1.1, h1.2, h2.1, h2.2]; rfl
/-- Whether a byte `>` stands in a row. -/
def gtB (l : List UInt8) : Bool := l.any fun b => b == 62
theorem gtB_append (a b : List UInt8) : gtB (a ++ b) = (gtB a || gtB b) := List.any_append ..
theorem gt_take (s : ByteArray) (i : Nat) (h : i < s.size) : gtB (s.toList.take (i + 1)) = (gtB (s.toList.take i) || ((s[i].toNat : Int) == 62)) := by
  have hl : i < s.toList.length := by rw [Go.ByteArray.toList_eq]; simpa using h
  have hg : s.toList[i]? = some s[i] := by
    rw [Go.ByteArray.toList_eq, Array.getElem?_toList]
    exact Array.getElem?_eq_getElem (show i < s.data.size from h)
  rw [List.take_add_one, hg, gtB_append, Option.toList_some]
  congr 1
  simp only [gtB, List.any_cons, List.any_nil, Bool.or_false]
  rw [Bool.eq_iff_iff]
  simp only [beq_iff_eq]
  constructor
  · intro e; rw [e]; rfl
  · intro e
    apply UInt8.toNat_inj.1
    have : s[i].toNat = 62 := by omega
    rw [this]; rfl
theorem gt_plain : ∀ s : STy, gtB s.tree.write = !s.vt.plain
  | .bit => by simp [STy.tree, STy.vt, Tree.write, sBit, gtB, Ty.plain]
  | .fn a b => by simp [STy.tree, STy.vt, Tree.write, Tree.writes, sFn, gtB, Ty.plain]
  | .pair a b => by
    have h1 := gt_plain a; have h2 := gt_plain b
    unfold gtB at h1 h2
    simp [STy.tree, STy.vt, Tree.write, Tree.writes, sPr, gtB, Ty.plain, h1, h2]
theorem nt_plain (s : STy) : s.nt.plain = true ↔ s = .bit := by cases s <;> simp [STy.nt, Ty.plain]
/-- What is read of a source type's text is written as it. -/
theorem readSty_write {s : ByteArray} {x : STy} (h : readSty s = some x) : s.toList = x.tree.write := by
  unfold readSty at h
  cases hp : parse s with
  | none => rw [hp] at h; simp at h
  | some t =>
    rw [hp] at h
    simp only at h
    split at h
    · rw [Go.ByteArray.toList_eq, parse_write hp, sty_tree t x h]
    · simp at h
theorem vt_atoms : ∀ s : STy, s.vt.atoms ≤ 3 * s.n
  | .bit => by simp [STy.vt, Ty.atoms, STy.n]
  | .fn a b => by have h1 := vt_atoms a; have h2 := vt_atoms b; simp [STy.vt, Ty.atoms, STy.n]; omega
  | .pair a b => by have h1 := vt_atoms a; have h2 := vt_atoms b; simp [STy.vt, Ty.atoms, STy.n]; omega
theorem nt_atoms : ∀ s : STy, s.nt.atoms ≤ 3 * s.n
  | .bit => by simp [STy.nt, Ty.atoms, STy.n]
  | .fn a b => by have h1 := nt_atoms a; have h2 := nt_atoms b; simp [STy.nt, Ty.atoms, STy.n]; omega
  | .pair a b => by have h1 := nt_atoms a; have h2 := nt_atoms b; simp [STy.nt, Ty.atoms, STy.n]; omega
/-- A translated text that is a type is the translation. -/
theorem tv_read {T : Ty} (hw : T.wf = true) (ha : T.atoms ≤ 90) (h : (readTy T.text).isSome = true) : readTy T.text = some T := by
  have hp : parse T.text = some T.tree :=
    parse_back (by rw [lw_data, ty_tree_write]) (tree_wk T) (by have := tree_dp T; omega) (by rw [ty_tree_write]; have := ty_write_len T; omega)
  unfold readTy at h ⊢
  rw [hp] at h ⊢
  simp only at h ⊢
  split at h
  · rename_i hs; rw [if_pos hs, tree_ty T hw]
  · cases h
theorem tv_text (T : Ty) : T.tree.txt = T.text := by rw [Tree.txt, Ty.text, ty_tree_write]
/-- What ValueType's result is. -/
theorem vt_facts {s out : ByteArray} (x : STy) (hr : readSty s = some x) (ho : out = x.byv.txt) (h : (readTy x.byv.txt).isSome = true) : readTy out = some x.vt ∧ out.toList = x.vt.write := by
  have e : x.byv.txt = x.vt.text := by rw [← vt_tree, tv_text]
  have hn := readSty_n hr
  have ha := vt_atoms x
  rw [e] at h ho
  subst ho
  exact ⟨tv_read (vt_ok x).1 (by omega) h, text_toList _⟩
theorem nt_facts {s out : ByteArray} (x : STy) (hr : readSty s = some x) (ho : out = x.byn.txt) (h : (readTy x.byn.txt).isSome = true) : readTy out = some x.nt ∧ out.toList = x.nt.write := by
  have e : x.byn.txt = x.nt.text := by rw [← nt_tree, tv_text]
  have hn := readSty_n hr
  have ha := nt_atoms x
  rw [e] at h ho
  subst ho
  exact ⟨tv_read (nt_ok x).1 (by omega) h, text_toList _⟩
theorem byte_of {s : ByteArray} {i : Nat} {c : UInt8} (h : s.toList[i]? = some c) : ∃ hi : i < s.size, s[i] = c := by
  rw [Go.ByteArray.toList_eq, Array.getElem?_toList] at h
  obtain ⟨hi, hc⟩ := Array.getElem?_eq_some_iff.1 h
  exact ⟨hi, hc⟩
/-- What a source type's text begins with, and the head of its name translation. -/
theorem nt_forms {s : ByteArray} (x : STy) (hsw : s.toList = x.tree.write) :
    (s.size = 1 ∧ (s.toList == [98]) = true ∧ ((⟨#[x.nt.headB]⟩ : ByteArray).toList == [102]) = true ∧ x.nt.plain = true) ∨
    (∃ h : 1 < s.size, ((s[1].toNat : Int) == 62) = true ∧ ((s[1].toNat : Int) == 42) = false ∧ (s.toList == [98]) = false ∧ ((⟨#[x.nt.headB]⟩ : ByteArray).toList == [62]) = true ∧ x.nt.plain = false) ∨
    (∃ h : 1 < s.size, ((s[1].toNat : Int) == 62) = false ∧ ((s[1].toNat : Int) == 42) = true ∧ (s.toList == [98]) = false ∧ ((⟨#[x.nt.headB]⟩ : ByteArray).toList == [38]) = true ∧ x.nt.plain = false) := by
  have hsz : s.size = s.toList.length := by rw [Go.ByteArray.toList_eq]; simp
  cases x with
  | bit =>
    left
    have e : s.toList = [98] := by rw [hsw]; rfl
    exact ⟨by rw [hsz, e]; rfl, by rw [e]; rfl, by rw [Go.ByteArray.toList_eq]; rfl, rfl⟩
  | fn a b =>
    right; left
    have e : s.toList = 40 :: 62 :: (STy.fn a b).tree.write.drop 2 := by rw [hsw]; simp [STy.tree, Tree.write, Tree.writes, sFn]
    obtain ⟨hi, hc⟩ := byte_of (s := s) (i := 1) (c := 62) (by rw [e]; rfl)
    exact ⟨hi, by rw [hc]; rfl, by rw [hc]; rfl, by rw [e]; rfl, by rw [Go.ByteArray.toList_eq]; rfl, rfl⟩
  | pair a b =>
    right; right
    have e : s.toList = 40 :: 42 :: (STy.pair a b).tree.write.drop 2 := by rw [hsw]; simp [STy.tree, Tree.write, Tree.writes, sPr]
    obtain ⟨hi, hc⟩ := byte_of (s := s) (i := 1) (c := 42) (by rw [e]; rfl)
    exact ⟨hi, by rw [hc]; rfl, by rw [hc]; rfl, by rw [e]; rfl, by rw [Go.ByteArray.toList_eq]; rfl, rfl⟩
theorem vt_bit (x : STy) : (x.vt.write == [98]) = (x.tree.write == [98]) := by cases x <;> simp [STy.vt, Ty.write, STy.tree, Tree.write, Tree.writes, sBit]
end Go.Proofs.Ytlggbhakkhecmaa

namespace Go.Proofs.Ytlggbhakkhecmaa
open Go.RowKit


set_option maxRecDepth 100000 in
set_option maxHeartbeats 4000000 in
theorem byv_pair {w : World} {b c d : Nat} {hd : ByteArray} {A B : Tree} (e0 : (hd.toList == [62]) = false) (e1 : (hd.toList == [42]) = true) (hA : A.write.length ≤ 8000) (hB : B.write.length ≤ 8000)
    (hb : w.heap[b]? = some (.cells #[.string hd, .pointer (some ⟨c, 0, none⟩), .pointer (some ⟨d, 0, none⟩)] 60 (0, 0)))
    (H1 : ∀ W, Below w.heap.size w W → Calls Try.prog 19 #[.pointer (some ⟨c, 0, none⟩)] W fun e w' => e = .returned (.string A.txt) ∧ Below W.heap.size W w')
    (H2 : ∀ W, Below w.heap.size w W → Calls Try.prog 19 #[.pointer (some ⟨d, 0, none⟩)] W fun e w' => e = .returned (.string B.txt) ∧ Below W.heap.size W w') :
    Calls Try.prog 19 #[.pointer (some ⟨b, 0, none⟩)] w fun e w' => e = .returned (.string (Tree.node [.atom ({ data := #[42] } : ByteArray), A, B]).txt) ∧ Below w.heap.size w w' := by
  have HC1 := hid H1
  have HC2 := hid H2
  have hl : (Tree.node [.atom ({ data := #[42] } : ByteArray), A, B]).write.length ≤ 20000 := by simp [Tree.write, Tree.writes]; omega
  have HL := hid hl
  have HROW := hid (fun W => row_cells (heap_new W (.cells #[.string ({ data := #[42] } : ByteArray), .string A.txt, .string B.txt] 9) W.heap.size rfl) (ps := [.atom ({ data := #[42] } : ByteArray), A, B]) (by simp [atom_txt]))
  have hlt := lt_of_block hb
  have KB := hid (fun W (h : Below w.heap.size w W) => cells_of_3 (block_below hb h hlt))
  obtain ⟨d1, d2, d3⟩ := KB.out w (Below.refl _ _)
  clear H1 H2 hl hb hlt
  go_enter Try.func19, Try.ntmps19
  go_wp2_with fail
  go_region_held3 (fun w' => w'.cell? ⟨b, 0, none⟩ = some (.string hd) ∧ w'.cell? ⟨b, 1, none⟩ = some (.pointer (some ⟨c, 0, none⟩)) ∧ w'.cell? ⟨b, 2, none⟩ = some (.pointer (some ⟨d, 0, none⟩)))
    (first | exact ⟨d1, d2, d3⟩ | exact e5 | exact e4 | exact e3 | exact e2)
    (first
      | (have _ := HB3; go_at_call 32; refine (list_any [.atom ({ data := #[42] } : ByteArray), A, B] 3 _ 3 rfl (by decide) HL.out (by decide) _ (by simp) (HROW.out _)).mono ?_; rintro e w5 ⟨rfl, hb5⟩; have hb05 := below_nx hb5 HB4.out; have e5 := KB.out _ hb05; have HB5 := hid hb05; clear hb5 hb05)
      | (have _ := HB2; go_at_call 19; refine (HC2.out _ HB2.out).mono ?_; rintro e w3 ⟨rfl, hb3⟩; have hb03 := below_nx hb3 HB2.out; have e3 := KB.out _ hb03; have hb04 := hb03.alloc hb03.size (.cells #[.string ({ data := #[42] } : ByteArray), .string A.txt, .string B.txt] 9); have e4 := KB.out _ hb04; have HB3 := hid hb03; have HB4 := hid hb04; clear hb3 hb03 hb04)
      | (go_at_call 19; refine (HC1.out w.drew ((Below.refl _ _).drew)).mono ?_; rintro e w2 ⟨rfl, hb2⟩; have hb02 := below_nx hb2 ((Below.refl _ w).drew); have e2 := KB.out _ hb02; have HB2 := hid hb02; clear hb2 hb02))
  go_wp2_with fail
  go_ret
  exact ⟨rfl, HB5.out⟩

set_option maxRecDepth 100000 in
set_option maxHeartbeats 4000000 in
theorem byv_fn {w : World} {b c d : Nat} {hd : ByteArray} {A B : Tree} (e0 : (hd.toList == [62]) = true) (hA : A.write.length ≤ 8000) (hB : B.write.length ≤ 8000)
    (hb : w.heap[b]? = some (.cells #[.string hd, .pointer (some ⟨c, 0, none⟩), .pointer (some ⟨d, 0, none⟩)] 60 (0, 0)))
    (H1 : ∀ W, Below w.heap.size w W → Calls Try.prog 19 #[.pointer (some ⟨c, 0, none⟩)] W fun e w' => e = .returned (.string A.txt) ∧ Below W.heap.size W w')
    (H2 : ∀ W, Below w.heap.size w W → Calls Try.prog 19 #[.pointer (some ⟨d, 0, none⟩)] W fun e w' => e = .returned (.string B.txt) ∧ Below W.heap.size W w') :
    Calls Try.prog 19 #[.pointer (some ⟨b, 0, none⟩)] w fun e w' => e = .returned (.string (Tree.node [.atom ({ data := #[117] } : ByteArray), .node [.atom ({ data := #[62] } : ByteArray), A, .node [.atom ({ data := #[102] } : ByteArray), B]]]).txt) ∧ Below w.heap.size w w' := by
  have HC1 := hid H1
  have HC2 := hid H2
  have HL1 := hid (show (Tree.node [.atom ({ data := #[102] } : ByteArray), B]).write.length ≤ 20000 by simp [Tree.write, Tree.writes]; omega)
  have HL2 := hid (show (Tree.node [.atom ({ data := #[62] } : ByteArray), A, .node [.atom ({ data := #[102] } : ByteArray), B]]).write.length ≤ 20000 by simp [Tree.write, Tree.writes]; omega)
  have HL3 := hid (show (Tree.node [.atom ({ data := #[117] } : ByteArray), .node [.atom ({ data := #[62] } : ByteArray), A, .node [.atom ({ data := #[102] } : ByteArray), B]]]).write.length ≤ 20000 by simp [Tree.write, Tree.writes]; omega)
  have HROW1 := hid (fun W => row_cells (heap_new W (.cells #[.string ({ data := #[102] } : ByteArray), .string B.txt] 9) W.heap.size rfl) (ps := [.atom ({ data := #[102] } : ByteArray), B]) (by simp [atom_txt]))
  have HROW2 := hid (fun W => row_cells (heap_new W (.cells #[.string ({ data := #[62] } : ByteArray), .string A.txt, .string (Tree.node [.atom ({ data := #[102] } : ByteArray), B]).txt] 9) W.heap.size rfl) (ps := [.atom ({ data := #[62] } : ByteArray), A, .node [.atom ({ data := #[102] } : ByteArray), B]]) (by simp [atom_txt]))
  have HROW3 := hid (fun W => row_cells (heap_new W (.cells #[.string ({ data := #[117] } : ByteArray), .string (Tree.node [.atom ({ data := #[62] } : ByteArray), A, .node [.atom ({ data := #[102] } : ByteArray), B]]).txt] 9) W.heap.size rfl) (ps := [.atom ({ data := #[117] } : ByteArray), .node [.atom ({ data := #[62] } : ByteArray), A, .node [.atom ({ data := #[102] } : ByteArray), B]]]) (by simp [atom_txt]))
  have hlt := lt_of_block hb
  have KB := hid (fun W (h : Below w.heap.size w W) => cells_of_3 (block_below hb h hlt))
  obtain ⟨d1, d2, d3⟩ := KB.out w (Below.refl _ _)
  clear H1 H2 hb hlt
  go_enter Try.func19, Try.ntmps19
  go_wp2_with fail
  go_region_held3 (fun w' => w'.cell? ⟨b, 0, none⟩ = some (.string hd) ∧ w'.cell? ⟨b, 1, none⟩ = some (.pointer (some ⟨c, 0, none⟩)) ∧ w'.cell? ⟨b, 2, none⟩ = some (.pointer (some ⟨d, 0, none⟩)))
    (first | exact ⟨d1, d2, d3⟩ | exact e9 | exact e8 | exact e7 | exact e6 | exact e5 | exact e4 | exact e3 | exact e2)
    (first
      | (have _ := HB7; go_at_call 32; refine (list_any [.atom ({ data := #[117] } : ByteArray), .node [.atom ({ data := #[62] } : ByteArray), A, .node [.atom ({ data := #[102] } : ByteArray), B]]] 2 _ 2 rfl (by decide) HL3.out (by decide) _ (by simp) (HROW3.out _)).mono ?_; rintro e w9 ⟨rfl, hb9⟩; have hb09 := below_nx hb9 HB8.out; have e9 := KB.out _ hb09; have HB9 := hid hb09; clear hb9 hb09)
      | (have _ := HB5; go_at_call 32; refine (list_any [.atom ({ data := #[62] } : ByteArray), A, .node [.atom ({ data := #[102] } : ByteArray), B]] 3 _ 3 rfl (by decide) HL2.out (by decide) _ (by simp) (HROW2.out _)).mono ?_; rintro e w7 ⟨rfl, hb7⟩; have hb07 := below_nx hb7 HB6.out; have e7 := KB.out _ hb07; have hb08 := hb07.alloc hb07.size (.cells #[.string ({ data := #[117] } : ByteArray), .string (Tree.node [.atom ({ data := #[62] } : ByteArray), A, .node [.atom ({ data := #[102] } : ByteArray), B]]).txt] 9); have e8 := KB.out _ hb08; have HB7 := hid hb07; have HB8 := hid hb08; clear hb7 hb07 hb08)
      | (have _ := HB3; go_at_call 32; refine (list_any [.atom ({ data := #[102] } : ByteArray), B] 2 _ 2 rfl (by decide) HL1.out (by decide) _ (by simp) (HROW1.out _)).mono ?_; rintro e w5 ⟨rfl, hb5⟩; have hb05 := below_nx hb5 HB4.out; have e5 := KB.out _ hb05; have hb06 := hb05.alloc hb05.size (.cells #[.string ({ data := #[62] } : ByteArray), .string A.txt, .string (Tree.node [.atom ({ data := #[102] } : ByteArray), B]).txt] 9); have e6 := KB.out _ hb06; have HB5 := hid hb05; have HB6 := hid hb06; clear hb5 hb05 hb06)
      | (have _ := HB2; go_at_call 19; refine (HC2.out _ HB2.out).mono ?_; rintro e w3 ⟨rfl, hb3⟩; have hb03 := below_nx hb3 HB2.out; have e3 := KB.out _ hb03; have hb04 := hb03.alloc hb03.size (.cells #[.string ({ data := #[102] } : ByteArray), .string B.txt] 9); have e4 := KB.out _ hb04; have HB3 := hid hb03; have HB4 := hid hb04; clear hb3 hb03 hb04)
      | (go_at_call 19; refine (HC1.out w.drew ((Below.refl _ _).drew)).mono ?_; rintro e w2 ⟨rfl, hb2⟩; have hb02 := below_nx hb2 ((Below.refl _ w).drew); have e2 := KB.out _ hb02; have HB2 := hid hb02; clear hb2 hb02))
  go_wp2_with fail
  go_ret
  exact ⟨rfl, HB9.out⟩

set_option maxRecDepth 100000 in
theorem byv_bit {w : World} {b : Nat} {hd : ByteArray} (e0 : (hd.toList == [62]) = false) (e1 : (hd.toList == [42]) = false) (hb : w.heap[b]? = some (.cells #[.string hd, .pointer none, .pointer none] 60 (0, 0))) :
    Calls Try.prog 19 #[.pointer (some ⟨b, 0, none⟩)] w fun e w' => e = .returned (.string ({ data := #[98] } : ByteArray)) ∧ Below w.heap.size w w' := by
  obtain ⟨d1, -, -⟩ := cells_of_3 hb
  clear hb
  go_enter Try.func19, Try.ntmps19
  go_wp2
  go_ret
  exact ⟨rfl, Below.refl _ _⟩

set_option maxHeartbeats 1000000 in
theorem byv_any {w0 : World} {S : Nat → Prop} {s : STy} {b : Nat} (h : SIn w0 S s b) : s.n ≤ 200 → ∀ w, Kept w0 w → w0.heap.size ≤ w.heap.size →
    Calls Try.prog 19 #[.pointer (some ⟨b, 0, none⟩)] w fun e w' => e = .returned (.string s.byv.txt) ∧ Below w.heap.size w w' := by
  induction h with
  | bit hd hh b hS hb =>
    intro _ w hk hw
    exact byv_bit (by rw [hh]; rfl) (by rw [hh]; rfl) ((hk b (lt_of_block hb)).trans hb)
  | fn hd hh x y b c d hS hb hx hy ihx ihy =>
    intro hn w hk hw
    simp only [STy.n] at hn
    have l1 := tree_len x; have l2 := tree_len y; have l3 := byv_len x; have l4 := byv_len y; have l5 := dfl_len x; have l6 := dfl_len y
    have hh2 := bytes_of_toList hh
    have hlt := lt_of_block hb
    exact byv_fn (by rw [hh]; rfl) (by omega) (by omega) ((hk b hlt).trans hb) (fun W h => ihx (by omega) W (hk.trans (Kept.of_below h (Nat.le_refl _)) hw) (Nat.le_trans hw h.size)) (fun W h => ihy (by omega) W (hk.trans (Kept.of_below h (Nat.le_refl _)) hw) (Nat.le_trans hw h.size))
  | pair hd hh x y b c d hS hb hx hy ihx ihy =>
    intro hn w hk hw
    simp only [STy.n] at hn
    have l1 := tree_len x; have l2 := tree_len y; have l3 := byv_len x; have l4 := byv_len y; have l5 := dfl_len x; have l6 := dfl_len y
    have hh2 := bytes_of_toList hh
    have hlt := lt_of_block hb
    exact byv_pair (by rw [hh]; rfl) (by rw [hh]; rfl) (by omega) (by omega) ((hk b hlt).trans hb) (fun W h => ihx (by omega) W (hk.trans (Kept.of_below h (Nat.le_refl _)) hw) (Nat.le_trans hw h.size)) (fun W h => ihy (by omega) W (hk.trans (Kept.of_below h (Nat.le_refl _)) hw) (Nat.le_trans hw h.size))
end Go.Proofs.Ytlggbhakkhecmaa

namespace Go.Proofs.Ytlggbhakkhecmaa
open Go.RowKit

set_option maxRecDepth 100000 in
set_option maxHeartbeats 4000000 in
theorem byn_pair {w : World} {b c d : Nat} {hd : ByteArray} {A B : Tree} (e0 : (hd.toList == [62]) = false) (e1 : (hd.toList == [42]) = true) (hA : A.write.length ≤ 8000) (hB : B.write.length ≤ 8000)
    (hb : w.heap[b]? = some (.cells #[.string hd, .pointer (some ⟨c, 0, none⟩), .pointer (some ⟨d, 0, none⟩)] 60 (0, 0)))
    (H1 : ∀ W, Below w.heap.size w W → Calls Try.prog 25 #[.pointer (some ⟨c, 0, none⟩)] W fun e w' => e = .returned (.string A.txt) ∧ Below W.heap.size W w')
    (H2 : ∀ W, Below w.heap.size w W → Calls Try.prog 25 #[.pointer (some ⟨d, 0, none⟩)] W fun e w' => e = .returned (.string B.txt) ∧ Below W.heap.size W w') :
    Calls Try.prog 25 #[.pointer (some ⟨b, 0, none⟩)] w fun e w' => e = .returned (.string (Tree.node [.atom ({ data := #[38] } : ByteArray), A, B]).txt) ∧ Below w.heap.size w w' := by
  have HC1 := hid H1
  have HC2 := hid H2
  have hl : (Tree.node [.atom ({ data := #[38] } : ByteArray), A, B]).write.length ≤ 20000 := by simp [Tree.write, Tree.writes]; omega
  have HL := hid hl
  have HROW := hid (fun W => row_cells (heap_new W (.cells #[.string ({ data := #[38] } : ByteArray), .string A.txt, .string B.txt] 9) W.heap.size rfl) (ps := [.atom ({ data := #[38] } : ByteArray), A, B]) (by simp [atom_txt]))
  have hlt := lt_of_block hb
  have KB := hid (fun W (h : Below w.heap.size w W) => cells_of_3 (block_below hb h hlt))
  obtain ⟨d1, d2, d3⟩ := KB.out w (Below.refl _ _)
  clear H1 H2 hl hb hlt
  go_enter Try.func25, Try.ntmps25
  go_wp2_with fail
  go_region_held3 (fun w' => w'.cell? ⟨b, 0, none⟩ = some (.string hd) ∧ w'.cell? ⟨b, 1, none⟩ = some (.pointer (some ⟨c, 0, none⟩)) ∧ w'.cell? ⟨b, 2, none⟩ = some (.pointer (some ⟨d, 0, none⟩)))
    (first | exact ⟨d1, d2, d3⟩ | exact e5 | exact e4 | exact e3 | exact e2)
    (first
      | (have _ := HB3; go_at_call 32; refine (list_any [.atom ({ data := #[38] } : ByteArray), A, B] 3 _ 3 rfl (by decide) HL.out (by decide) _ (by simp) (HROW.out _)).mono ?_; rintro e w5 ⟨rfl, hb5⟩; have hb05 := below_nx hb5 HB4.out; have e5 := KB.out _ hb05; have HB5 := hid hb05; clear hb5 hb05)
      | (have _ := HB2; go_at_call 25; refine (HC2.out _ HB2.out).mono ?_; rintro e w3 ⟨rfl, hb3⟩; have hb03 := below_nx hb3 HB2.out; have e3 := KB.out _ hb03; have hb04 := hb03.alloc hb03.size (.cells #[.string ({ data := #[38] } : ByteArray), .string A.txt, .string B.txt] 9); have e4 := KB.out _ hb04; have HB3 := hid hb03; have HB4 := hid hb04; clear hb3 hb03 hb04)
      | (go_at_call 25; refine (HC1.out w.drew ((Below.refl _ _).drew)).mono ?_; rintro e w2 ⟨rfl, hb2⟩; have hb02 := below_nx hb2 ((Below.refl _ w).drew); have e2 := KB.out _ hb02; have HB2 := hid hb02; clear hb2 hb02))
  go_wp2_with fail
  go_ret
  exact ⟨rfl, HB5.out⟩

set_option maxRecDepth 100000 in
set_option maxHeartbeats 4000000 in
theorem byn_fn {w : World} {b c d : Nat} {hd : ByteArray} {A B : Tree} (e0 : (hd.toList == [62]) = true) (hA : A.write.length ≤ 8000) (hB : B.write.length ≤ 8000)
    (hb : w.heap[b]? = some (.cells #[.string hd, .pointer (some ⟨c, 0, none⟩), .pointer (some ⟨d, 0, none⟩)] 60 (0, 0)))
    (H1 : ∀ W, Below w.heap.size w W → Calls Try.prog 25 #[.pointer (some ⟨c, 0, none⟩)] W fun e w' => e = .returned (.string A.txt) ∧ Below W.heap.size W w')
    (H2 : ∀ W, Below w.heap.size w W → Calls Try.prog 25 #[.pointer (some ⟨d, 0, none⟩)] W fun e w' => e = .returned (.string B.txt) ∧ Below W.heap.size W w') :
    Calls Try.prog 25 #[.pointer (some ⟨b, 0, none⟩)] w fun e w' => e = .returned (.string (Tree.node [.atom ({ data := #[62] } : ByteArray), .node [.atom ({ data := #[117] } : ByteArray), A], B]).txt) ∧ Below w.heap.size w w' := by
  have HC1 := hid H1
  have HC2 := hid H2
  have HL1 := hid (show (Tree.node [.atom ({ data := #[117] } : ByteArray), A]).write.length ≤ 20000 by simp [Tree.write, Tree.writes]; omega)
  have HL2 := hid (show (Tree.node [.atom ({ data := #[62] } : ByteArray), .node [.atom ({ data := #[117] } : ByteArray), A], B]).write.length ≤ 20000 by simp [Tree.write, Tree.writes]; omega)
  have HROW1 := hid (fun W => row_cells (heap_new W (.cells #[.string ({ data := #[117] } : ByteArray), .string A.txt] 9) W.heap.size rfl) (ps := [.atom ({ data := #[117] } : ByteArray), A]) (by simp [atom_txt]))
  have HROW2 := hid (fun W => row_cells (heap_new W (.cells #[.string ({ data := #[62] } : ByteArray), .string (Tree.node [.atom ({ data := #[117] } : ByteArray), A]).txt, .string B.txt] 9) W.heap.size rfl) (ps := [.atom ({ data := #[62] } : ByteArray), .node [.atom ({ data := #[117] } : ByteArray), A], B]) (by simp [atom_txt]))
  have hlt := lt_of_block hb
  have KB := hid (fun W (h : Below w.heap.size w W) => cells_of_3 (block_below hb h hlt))
  obtain ⟨d1, d2, d3⟩ := KB.out w (Below.refl _ _)
  clear H1 H2 hb hlt
  go_enter Try.func25, Try.ntmps25
  go_wp2_with fail
  go_region_held3 (fun w' => w'.cell? ⟨b, 0, none⟩ = some (.string hd) ∧ w'.cell? ⟨b, 1, none⟩ = some (.pointer (some ⟨c, 0, none⟩)) ∧ w'.cell? ⟨b, 2, none⟩ = some (.pointer (some ⟨d, 0, none⟩)))
    (first | exact ⟨d1, d2, d3⟩ | exact e7 | exact e6 | exact e5 | exact e4 | exact e3 | exact e2)
    (first
      | (have _ := HB5; go_at_call 32; refine (list_any [.atom ({ data := #[62] } : ByteArray), .node [.atom ({ data := #[117] } : ByteArray), A], B] 3 _ 3 rfl (by decide) HL2.out (by decide) _ (by simp) (HROW2.out _)).mono ?_; rintro e w7 ⟨rfl, hb7⟩; have hb07 := below_nx hb7 HB6.out; have e7 := KB.out _ hb07; have HB7 := hid hb07; clear hb7 hb07)
      | (have _ := HB4; go_at_call 25; refine (HC2.out _ HB4.out).mono ?_; rintro e w5 ⟨rfl, hb5⟩; have hb05 := below_nx hb5 HB4.out; have e5 := KB.out _ hb05; have hb06 := hb05.alloc hb05.size (.cells #[.string ({ data := #[62] } : ByteArray), .string (Tree.node [.atom ({ data := #[117] } : ByteArray), A]).txt, .string B.txt] 9); have e6 := KB.out _ hb06; have HB5 := hid hb05; have HB6 := hid hb06; clear hb5 hb05 hb06)
      | (have _ := HB2; go_at_call 32; refine (list_any [.atom ({ data := #[117] } : ByteArray), A] 2 _ 2 rfl (by decide) HL1.out (by decide) _ (by simp) (HROW1.out _)).mono ?_; rintro e w4 ⟨rfl, hb4⟩; have hb04 := below_nx hb4 HB3.out; have e4 := KB.out _ hb04; have HB4 := hid hb04; clear hb4 hb04)
      | (go_at_call 25; refine (HC1.out w.drew ((Below.refl _ _).drew)).mono ?_; rintro e w2 ⟨rfl, hb2⟩; have hb02 := below_nx hb2 ((Below.refl _ w).drew); have e2 := KB.out _ hb02; have hb03 := hb02.alloc hb02.size (.cells #[.string ({ data := #[117] } : ByteArray), .string A.txt] 9); have e3 := KB.out _ hb03; have HB2 := hid hb02; have HB3 := hid hb03; clear hb2 hb02 hb03))
  go_wp2_with fail
  go_ret
  exact ⟨rfl, HB7.out⟩

set_option maxRecDepth 100000 in
theorem byn_bit {w : World} {b : Nat} {hd : ByteArray} (e0 : (hd.toList == [62]) = false) (e1 : (hd.toList == [42]) = false) (hb : w.heap[b]? = some (.cells #[.string hd, .pointer none, .pointer none] 60 (0, 0))) :
    Calls Try.prog 25 #[.pointer (some ⟨b, 0, none⟩)] w fun e w' => e = .returned (.string (Tree.node [.atom ({ data := #[102] } : ByteArray), .atom ({ data := #[98] } : ByteArray)]).txt) ∧ Below w.heap.size w w' := by
  have HL1 := hid (show (Tree.node [.atom ({ data := #[102] } : ByteArray), .atom ({ data := #[98] } : ByteArray)]).write.length ≤ 20000 by simp [Tree.write, Tree.writes])
  have HROW1 := hid (fun W => row_cells (heap_new W (.cells #[.string ({ data := #[102] } : ByteArray), .string ({ data := #[98] } : ByteArray)] 9) W.heap.size rfl) (ps := [.atom ({ data := #[102] } : ByteArray), .atom ({ data := #[98] } : ByteArray)]) (by simp [atom_txt]))
  obtain ⟨d1, -, -⟩ := cells_of_3 hb
  clear hb
  go_enter Try.func25, Try.ntmps25
  go_wp2_with (go_at_call 32; refine (list_any [.atom ({ data := #[102] } : ByteArray), .atom ({ data := #[98] } : ByteArray)] 2 _ 2 rfl (by decide) HL1.out (by decide) _ (by simp) (HROW1.out _)).mono ?_; rintro e w4 ⟨rfl, hb4⟩)
  go_ret
  exact ⟨rfl, ((Below.refl _ _).alloc (Nat.le_refl _) _).trans (hb4.mono (by simp))⟩

set_option maxHeartbeats 1000000 in
theorem byn_any {w0 : World} {S : Nat → Prop} {s : STy} {b : Nat} (h : SIn w0 S s b) : s.n ≤ 200 → ∀ w, Kept w0 w → w0.heap.size ≤ w.heap.size →
    Calls Try.prog 25 #[.pointer (some ⟨b, 0, none⟩)] w fun e w' => e = .returned (.string s.byn.txt) ∧ Below w.heap.size w w' := by
  induction h with
  | bit hd hh b hS hb =>
    intro _ w hk hw
    exact byn_bit (by rw [hh]; rfl) (by rw [hh]; rfl) ((hk b (lt_of_block hb)).trans hb)
  | fn hd hh x y b c d hS hb hx hy ihx ihy =>
    intro hn w hk hw
    simp only [STy.n] at hn
    have l1 := tree_len x; have l2 := tree_len y; have l3 := byn_len x; have l4 := byn_len y; have l5 := dfl_len x; have l6 := dfl_len y
    have hh2 := bytes_of_toList hh
    have hlt := lt_of_block hb
    exact byn_fn (by rw [hh]; rfl) (by omega) (by omega) ((hk b hlt).trans hb) (fun W h => ihx (by omega) W (hk.trans (Kept.of_below h (Nat.le_refl _)) hw) (Nat.le_trans hw h.size)) (fun W h => ihy (by omega) W (hk.trans (Kept.of_below h (Nat.le_refl _)) hw) (Nat.le_trans hw h.size))
  | pair hd hh x y b c d hS hb hx hy ihx ihy =>
    intro hn w hk hw
    simp only [STy.n] at hn
    have l1 := tree_len x; have l2 := tree_len y; have l3 := byn_len x; have l4 := byn_len y; have l5 := dfl_len x; have l6 := dfl_len y
    have hh2 := bytes_of_toList hh
    have hlt := lt_of_block hb
    exact byn_pair (by rw [hh]; rfl) (by rw [hh]; rfl) (by omega) (by omega) ((hk b hlt).trans hb) (fun W h => ihx (by omega) W (hk.trans (Kept.of_below h (Nat.le_refl _)) hw) (Nat.le_trans hw h.size)) (fun W h => ihy (by omega) W (hk.trans (Kept.of_below h (Nat.le_refl _)) hw) (Nat.le_trans hw h.size))

end Go.Proofs.Ytlggbhakkhecmaa

namespace Go.Proofs.Ytlggbhakkhecmaa
open Go.RowKit

/-- What NameType answers. -/
def ntX (s : ByteArray) : Option ByteArray := match readSty s with
  | some x => if (readTy x.byn.txt).isSome then some x.byn.txt else none
  | none => none
/-- A text that is a type. -/
def ifTy (x : ByteArray) : Option ByteArray := if (readTy x).isSome then some x else none
set_option maxRecDepth 100000 in
set_option maxHeartbeats 2000000 in
theorem ifType_any (s : ByteArray) (hs : s.size ≤ 400000000) (w : World) : Calls Try.prog 18 #[.string s] w (TxPost (ifTy s) w) := by
  have HT := hid (fun W => readType_any s hs W)
  cases hty : readTy s with
  | none =>
    have HX := hid (show ifTy s = none by rw [ifTy, hty]; rfl)
    have HTY := hid hty
    clear hty
    go_enter Try.func18, Try.ntmps18
    go_wp2_with (go_at_call 23; refine (HT.out _).mono ?_; rintro e w3 hp; rw [HTY.out] at hp; obtain ⟨rfl, hb3⟩ := hp.none; clear hp)
    go_ret2
    rw [HX.out]
    exact txPost_none hb3
  | some ty =>
    have HX := hid (show ifTy s = some s by rw [ifTy, hty]; rfl)
    have HTY := hid hty
    obtain ⟨nx, vx, hx⟩ := ty.val_iface
    have HV := hid hx
    clear hty hx
    go_enter Try.func18, Try.ntmps18
    go_wp2_with (go_at_call 23; refine (HT.out _).mono ?_; rintro e w3 hp; rw [HTY.out] at hp; obtain ⟨he3, hb3⟩ := hp.some; clear hp; rw [HV.out] at he3; subst he3)
    go_ret2
    rw [HX.out]
    exact ⟨rfl, hb3⟩

set_option maxRecDepth 100000 in
set_option maxHeartbeats 2000000 in
theorem implNameType_any (s : ByteArray) (hs : s.size ≤ 400000000) (w : World) : Calls Try.prog 12 #[.string s] w (TxPost (ntX s) w) := by
  have HC := hid (fun W => readSourceType_any s hs W)
  cases hr : readSty s with
  | none =>
    have HR := hid hr
    have HX := hid (show ntX s = none by rw [ntX, hr])
    clear hr
    go_enter Try.func12, Try.ntmps12
    go_wp2_with (go_at_call 17; refine (HC.out _).mono ?_; rintro e w1 hp; rw [HR.out] at hp; obtain ⟨rfl, hb1⟩ := hp.none; clear hp)
    go_ret2
    rw [HX.out]
    exact txPost_none hb1
  | some x =>
    have HR := hid hr
    have hn := readSty_n hr
    have hsz : x.byn.txt.size ≤ 400000000 := by have := byn_len x; rw [txt_size]; omega
    have hx : ntX s = ifTy x.byn.txt := by rw [ntX, hr]; rfl
    obtain ⟨X, D, hX⟩ := txV_shape (ifTy x.byn.txt)
    have HT := hid (fun W => (ifType_any x.byn.txt hsz W).mono fun e W' (h : TxPost (ifTy x.byn.txt) W e W') => (show e = .returned (.tuple #[.string X, .bool D]) ∧ Below W.heap.size W W' from by rw [← hX]; exact h))
    have HX := hid (show txV (ntX s) = .tuple #[.string X, .bool D] by rw [hx, hX])
    clear hr hsz hx hX
    go_enter Try.func12, Try.ntmps12
    go_wp2_with (first | (go_at_call 17; refine (HC.out _).mono ?_; rintro e w1 hp; rw [HR.out] at hp; obtain ⟨a1, rfl, hb1, hn1⟩ := hp.some; clear hp; have HN1 := hid (byn_any hn1 (by omega) w1 (Kept.refl _) (Nat.le_refl _)); clear hn1) | (go_at_call 25; refine HN1.out.mono ?_; rintro e w2 ⟨rfl, hb2⟩) | (go_at_call 18; refine (HT.out _).mono ?_; rintro e w3 ⟨rfl, hb3⟩))
    go_ret2
    exact ⟨by rw [HX.out]; rfl, hb1.trans ((hb2.trans (hb3.mono hb2.size)).mono hb1.size)⟩

set_option maxRecDepth 100000 in
set_option maxHeartbeats 2000000 in
theorem specNameType_any (s : ByteArray) (hs : s.size ≤ 400000000) (w : World) : Calls Try.prog 13 #[.string s] w (TxPost (ntX s) w) := by
  have HC := hid (fun W => l7Typed_any s hs W)
  have HE := hid (styTree_eq s)
  cases hr : readSty s with
  | none =>
    have HR := hid (show styTree s = none by rw [HE.out, hr]; rfl)
    have HX := hid (show ntX s = none by rw [ntX, hr])
    clear hr
    go_enter Try.func13, Try.ntmps13
    go_wp2_with (go_at_call 20; refine (HC.out _).mono ?_; rintro e w1 hp; rw [HR.out] at hp; obtain ⟨pa, pp, pl, pc, rfl, hpl, hb1⟩ := hp.none; clear hp)
    go_ret2
    rw [HX.out]
    exact txPost_none (hb1.alloc hb1.size _)
  | some x =>
    have HR := hid (show styTree s = some x.tree by rw [HE.out, hr]; rfl)
    have hn := readSty_n hr
    have hsz : x.byn.txt.size ≤ 400000000 := by have := byn_len x; rw [txt_size]; omega
    have HT := hid (fun W => specTypeKind_any x.byn.txt hsz W)
    cases hty : readTy x.byn.txt with
    | none =>
      have HX := hid (show ntX s = none by rw [ntX, hr]; simp only; rw [hty]; rfl)
      rw [hty] at HT
      have HTY := HT
      clear hr hty hsz HT
      go_enter Try.func13, Try.ntmps13
      go_wp2_with (first | (go_at_call 20; refine (HC.out _).mono ?_; rintro e w1 hp; rw [HR.out] at hp; obtain ⟨pa, pp, pl, pc, rfl, hb1, ht⟩ := hp.some; clear hp; have HN1 := hid (fun W hk hs => l8ByName_any x ht (by omega) W hk hs); clear ht) | (go_at_call 21; refine (HTY.out _).mono ?_; rintro e w3 ⟨he3, hb3⟩; rw [show kindOf none = ByteArray.empty from rfl] at he3; subst he3) | (go_at_call 26; refine (HN1.out _ ((Kept.refl _).alloc (Nat.le_refl _) _) (by simp)).mono ?_; rintro e w2 ⟨rfl, hb2⟩))
      go_ret2
      rw [HX.out]
      have s1 := hb1.size; have s2 := hb2.size
      simp at s2
      exact txPost_none (hb1.trans ((((Below.refl _ _).alloc (Nat.le_refl _) _).trans ((hb2.mono (by simp)).trans (hb3.mono (by omega)))).mono hb1.size))
    | some ty =>
      have HX := hid (show ntX s = some x.byn.txt by rw [ntX, hr]; simp only; rw [hty]; rfl)
      rw [hty] at HT
      have hks := kindS_some ty
      obtain ⟨K, hK⟩ : ∃ K, K = ty.kindS := ⟨_, rfl⟩
      have HTY := hid (fun W => (show Calls Try.prog 21 #[.string x.byn.txt] W fun e w' => e = .returned (.string K) ∧ Below W.heap.size W w' from by rw [hK]; exact HT.out W))
      rw [← hK] at hks
      clear hr hty hsz HT hK
      go_enter Try.func13, Try.ntmps13
      go_wp2_with (first | (go_at_call 20; refine (HC.out _).mono ?_; rintro e w1 hp; rw [HR.out] at hp; obtain ⟨pa, pp, pl, pc, rfl, hb1, ht⟩ := hp.some; clear hp; have HN1 := hid (fun W hk hs => l8ByName_any x ht (by omega) W hk hs); clear ht) | (go_at_call 21; refine (HTY.out _).mono ?_; rintro e w3 ⟨rfl, hb3⟩; have s2 := hb2.size; simp at s2; have k3 := (cells_of_pair (block_below (block_below (heap_new w1 (.cells #[.string pa, .slice pp pl pc] 38) _ rfl) hb2 (by simp)) hb3 (by omega))); have HK3 := hid ((((Kept.refl w1).alloc (Nat.le_refl _) _).below hb2 (by simp)).below hb3 (by omega)); have HB3 := hid hb3; have s3 := hb3.size) | (have _ := HB3; go_at_call 26; refine (HN1.out _ HK3.out (by omega)).mono ?_; rintro e w4 ⟨rfl, hb4⟩) | (go_at_call 26; refine (HN1.out _ ((Kept.refl _).alloc (Nat.le_refl _) _) (by simp)).mono ?_; rintro e w2 ⟨rfl, hb2⟩))
      go_ret2
      rw [HX.out]
      exact ⟨rfl, hb1.trans ((((Below.refl _ _).alloc (Nat.le_refl _) _).trans ((hb2.mono (by simp)).trans ((hb3.mono (by omega)).trans (hb4.mono (by omega))))).mono hb1.size)⟩
end Go.Proofs.Ytlggbhakkhecmaa

namespace Go.Proofs.Ytlggbhakkhecmaa
open Go.RowKit

/-- What ValueType answers. -/
def vtX (s : ByteArray) : Option ByteArray := match readSty s with
  | some x => if (readTy x.byv.txt).isSome then some x.byv.txt else none
  | none => none
set_option maxRecDepth 100000 in
set_option maxHeartbeats 2000000 in
theorem implValueType_any (s : ByteArray) (hs : s.size ≤ 400000000) (w : World) : Calls Try.prog 7 #[.string s] w (TxPost (vtX s) w) := by
  have HC := hid (fun W => readSourceType_any s hs W)
  cases hr : readSty s with
  | none =>
    have HR := hid hr
    have HX := hid (show vtX s = none by rw [vtX, hr])
    clear hr
    go_enter Try.func7, Try.ntmps7
    go_wp2_with (go_at_call 17; refine (HC.out _).mono ?_; rintro e w1 hp; rw [HR.out] at hp; obtain ⟨rfl, hb1⟩ := hp.none; clear hp)
    go_ret2
    rw [HX.out]
    exact txPost_none hb1
  | some x =>
    have HR := hid hr
    have hn := readSty_n hr
    have hsz : x.byv.txt.size ≤ 400000000 := by have := byv_len x; rw [txt_size]; omega
    have hx : vtX s = ifTy x.byv.txt := by rw [vtX, hr]; rfl
    obtain ⟨X, D, hX⟩ := txV_shape (ifTy x.byv.txt)
    have HT := hid (fun W => (ifType_any x.byv.txt hsz W).mono fun e W' (h : TxPost (ifTy x.byv.txt) W e W') => (show e = .returned (.tuple #[.string X, .bool D]) ∧ Below W.heap.size W W' from by rw [← hX]; exact h))
    have HX := hid (show txV (vtX s) = .tuple #[.string X, .bool D] by rw [hx, hX])
    clear hr hsz hx hX
    go_enter Try.func7, Try.ntmps7
    go_wp2_with (first | (go_at_call 17; refine (HC.out _).mono ?_; rintro e w1 hp; rw [HR.out] at hp; obtain ⟨a1, rfl, hb1, hn1⟩ := hp.some; clear hp; have HN1 := hid (byv_any hn1 (by omega) w1 (Kept.refl _) (Nat.le_refl _)); clear hn1) | (go_at_call 19; refine HN1.out.mono ?_; rintro e w2 ⟨rfl, hb2⟩) | (go_at_call 18; refine (HT.out _).mono ?_; rintro e w3 ⟨rfl, hb3⟩))
    go_ret2
    exact ⟨by rw [HX.out]; rfl, hb1.trans ((hb2.trans (hb3.mono hb2.size)).mono hb1.size)⟩

set_option maxRecDepth 100000 in
set_option maxHeartbeats 2000000 in
theorem specValueType_any (s : ByteArray) (hs : s.size ≤ 400000000) (w : World) : Calls Try.prog 8 #[.string s] w (TxPost (vtX s) w) := by
  have HC := hid (fun W => l7Typed_any s hs W)
  have HE := hid (styTree_eq s)
  cases hr : readSty s with
  | none =>
    have HR := hid (show styTree s = none by rw [HE.out, hr]; rfl)
    have HX := hid (show vtX s = none by rw [vtX, hr])
    clear hr
    go_enter Try.func8, Try.ntmps8
    go_wp2_with (go_at_call 20; refine (HC.out _).mono ?_; rintro e w1 hp; rw [HR.out] at hp; obtain ⟨pa, pp, pl, pc, rfl, hpl, hb1⟩ := hp.none; clear hp)
    go_ret2
    rw [HX.out]
    exact txPost_none (hb1.alloc hb1.size _)
  | some x =>
    have HR := hid (show styTree s = some x.tree by rw [HE.out, hr]; rfl)
    have hn := readSty_n hr
    have hsz : x.byv.txt.size ≤ 400000000 := by have := byv_len x; rw [txt_size]; omega
    have HT := hid (fun W => specTypeKind_any x.byv.txt hsz W)
    cases hty : readTy x.byv.txt with
    | none =>
      have HX := hid (show vtX s = none by rw [vtX, hr]; simp only; rw [hty]; rfl)
      rw [hty] at HT
      have HTY := HT
      clear hr hty hsz HT
      go_enter Try.func8, Try.ntmps8
      go_wp2_with (first | (go_at_call 20; refine (HC.out _).mono ?_; rintro e w1 hp; rw [HR.out] at hp; obtain ⟨pa, pp, pl, pc, rfl, hb1, ht⟩ := hp.some; clear hp; have HN1 := hid (fun W hk hs => l7ByValue_any x ht (by omega) W hk hs); clear ht) | (go_at_call 21; refine (HTY.out _).mono ?_; rintro e w3 ⟨he3, hb3⟩; rw [show kindOf none = ByteArray.empty from rfl] at he3; subst he3) | (go_at_call 22; refine (HN1.out _ ((Kept.refl _).alloc (Nat.le_refl _) _) (by simp)).mono ?_; rintro e w2 ⟨rfl, hb2⟩))
      go_ret2
      rw [HX.out]
      have s1 := hb1.size; have s2 := hb2.size
      simp at s2
      exact txPost_none (hb1.trans ((((Below.refl _ _).alloc (Nat.le_refl _) _).trans ((hb2.mono (by simp)).trans (hb3.mono (by omega)))).mono hb1.size))
    | some ty =>
      have HX := hid (show vtX s = some x.byv.txt by rw [vtX, hr]; simp only; rw [hty]; rfl)
      rw [hty] at HT
      have hks := kindS_some ty
      obtain ⟨K, hK⟩ : ∃ K, K = ty.kindS := ⟨_, rfl⟩
      have HTY := hid (fun W => (show Calls Try.prog 21 #[.string x.byv.txt] W fun e w' => e = .returned (.string K) ∧ Below W.heap.size W w' from by rw [hK]; exact HT.out W))
      rw [← hK] at hks
      clear hr hty hsz HT hK
      go_enter Try.func8, Try.ntmps8
      go_wp2_with (first | (go_at_call 20; refine (HC.out _).mono ?_; rintro e w1 hp; rw [HR.out] at hp; obtain ⟨pa, pp, pl, pc, rfl, hb1, ht⟩ := hp.some; clear hp; have HN1 := hid (fun W hk hs => l7ByValue_any x ht (by omega) W hk hs); clear ht) | (go_at_call 21; refine (HTY.out _).mono ?_; rintro e w3 ⟨rfl, hb3⟩; have s2 := hb2.size; simp at s2; have k3 := (cells_of_pair (block_below (block_below (heap_new w1 (.cells #[.string pa, .slice pp pl pc] 38) _ rfl) hb2 (by simp)) hb3 (by omega))); have HK3 := hid ((((Kept.refl w1).alloc (Nat.le_refl _) _).below hb2 (by simp)).below hb3 (by omega)); have HB3 := hid hb3; have s3 := hb3.size) | (have _ := HB3; go_at_call 22; refine (HN1.out _ HK3.out (by omega)).mono ?_; rintro e w4 ⟨rfl, hb4⟩) | (go_at_call 22; refine (HN1.out _ ((Kept.refl _).alloc (Nat.le_refl _) _) (by simp)).mono ?_; rintro e w2 ⟨rfl, hb2⟩))
      go_ret2
      rw [HX.out]
      exact ⟨rfl, hb1.trans ((((Below.refl _ _).alloc (Nat.le_refl _) _).trans ((hb2.mono (by simp)).trans ((hb3.mono (by omega)).trans (hb4.mono (by omega))))).mono hb1.size)⟩
end Go.Proofs.Ytlggbhakkhecmaa
