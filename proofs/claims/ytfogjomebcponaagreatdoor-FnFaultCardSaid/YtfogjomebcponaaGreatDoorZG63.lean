/- Merged: TypeP, TypedI. -/
import Derived.Test.YtfogjomebcponaaGreatDoorZG62
import Derived.Test.YtfogjomebcponaaGreatDoorZGc25
namespace Go.Proofs.YtfogjomebcponaaGreatDoor
open Go.RowKit
set_option maxRecDepth 100000
set_option maxHeartbeats 2000000
theorem envL_parts : ∀ (ns ts : List ByteArray) (l : List (ByteArray × Ty)), envL ns ts = some l → ns.length = ts.length → l.map Prod.fst = ns ∧ l.map (fun x => x.2.text) = ts ∧ EnvOk l ∧ EnvS l
 | [], [], l, h, _ => by obtain rfl : [] = l := Option.some.inj h; exact ⟨rfl, rfl, fun x hx => (by cases hx), fun x hx => (by cases hx)⟩
 | [], _ :: _, _, _, h => by simp at h
 | _ :: _, [], _, _, h => by simp at h
 | n :: ns, t :: ts, l, h, hl => by
  rw [envL] at h
  cases hr : readTy t with
  | none => rw [hr] at h; simp at h
  | some ty =>
   rw [hr] at h
   simp only at h
   split at h
   ·rename_i hc
    cases he : envL ns ts with
    | none => rw [he] at h; simp at h
    | some l2 =>
     rw [he] at h; simp at h; subst h
     obtain ⟨h1, h2, h3, h4⟩ := envL_parts ns ts l2 he (by simpa using hl)
     have hg := readTy_good hr
     refine ⟨by simp [h1], ?_, ?_, ?_⟩
     ·rw [List.map_cons, h2]
      congr 1
      exact (byt (readTy_write hr)).symm
     ·intro x hx
      rcases List.mem_cons.1 hx with rfl | hx
      ·exact ⟨hg, hc.1⟩
      ·exact h3 x hx
     ·intro x hx
      rcases List.mem_cons.1 hx with rfl | hx
      ·exact hg.2
      ·exact h4 x hx
   ·simp at h
theorem envOf_parts {ns ts : List ByteArray} {l : List (ByteArray × Ty)} (h : envOf ns ts = some l) : l.map Prod.fst = ns ∧ l.map (fun x => x.2.text) = ts ∧ EnvOk l.reverse ∧ EnvS l.reverse ∧ ns.length ≤ 8 ∧ ns.length = ts.length := by
 unfold envOf at h
 split at h
 ·rename_i hc
  obtain ⟨h1, h2, h3, h4⟩ := envL_parts ns ts l h hc.1
  exact ⟨h1, h2, fun x hx => h3 x (List.mem_reverse.1 hx), fun x hx => h4 x (List.mem_reverse.1 hx), hc.2, hc.1⟩
 ·simp at h
def typOf (ns ts : List ByteArray) (s : ByteArray) : Option Ty := match envOf ns ts, readTm s with
 | some l, some m => m.typ l.reverse
 | _, _ => none
def TypPost (o : Option Ty) (w : World) (e : Ending) (w' : World) : Prop := e = .returned (.tuple #[.string (txtO o), .bool o.isSome]) ∧ Below w.heap.size w w'
theorem readTm_tok {s : ByteArray} {m : Tm} (h : readTm s = some m) : m.tok := by
 obtain ⟨t, _, ht, _⟩ := rea h
 exact tm_tok t [] m ht
theorem implTermType_any (ns ts : List ByteArray) (s : ByteArray) (hs : s.size ≤ 400000000) (p q : Option Addr) (n m c d : Nat) (w : World) (hn : ns.length = n) (hm : ts.length = m) (hnb : n ≤ 400000000) (hmb : m ≤ 400000000) (hp : Vals w p (ns.map Value.string)) (hq : Vals w q (ts.map Value.string)) (hns : ∀ s ∈ ns, s.size ≤ 400000000) (hts : ∀ s ∈ ts, s.size ≤ 400000000) :
    Calls Tryz.prog 11 #[.slice p n c, .slice q m d, .string s] w (TypPost (typOf ns ts s) w) := by
 have HC := hid (readEnv_any ns ts p q n m c d w hn hm hnb hmb hp hq hns hts)
 have HR := hid (fun W => readTerm_any s hs W)
 clear hn hm hnb hmb hp hq hns hts
 unfold typOf
 cases ho : envOf ns ts with
 | none =>
  rw [ho] at HC
  cases hr : readTm s with
  | none =>
   rw [hr] at HR
   clear ho hr
   go_enter Tryz.func11, Tryz.ntmps11
   go_wp2_with (first | (go_at_call 29; have _ := hb1; refine (HR.out _).mono ?_; rintro e w2 hp; obtain ⟨rfl, hb2⟩ := hp.none; clear hp) | (go_at_call 28; refine HC.out.mono ?_; rintro e w1 hp; obtain ⟨rfl, hb1⟩ := hp.none; clear hp))
   go_ret2
   exact ⟨rfl, hb1.trans (hb2.mono hb1.size)⟩
  | some t =>
   rw [hr] at HR
   clear ho hr
   go_enter Tryz.func11, Tryz.ntmps11
   go_wp2_with (first | (go_at_call 29; have _ := hb1; refine (HR.out _).mono ?_; rintro e w2 hp; obtain ⟨a, rfl, hb2, _⟩ := hp.some; clear hp) | (go_at_call 28; refine HC.out.mono ?_; rintro e w1 hp; obtain ⟨rfl, hb1⟩ := hp.none; clear hp))
   go_ret2
   exact ⟨rfl, hb1.trans (hb2.mono hb1.size)⟩
 | some l =>
  rw [ho] at HC
  cases hr : readTm s with
  | none =>
   rw [hr] at HR
   clear ho hr
   go_enter Tryz.func11, Tryz.ntmps11
   go_wp2_with (first | (go_at_call 29; have _ := hb1; refine (HR.out _).mono ?_; rintro e w2 hp; obtain ⟨rfl, hb2⟩ := hp.none; clear hp) | (go_at_call 28; refine HC.out.mono ?_; rintro e w1 hp; obtain ⟨p1, rfl, hb1, _⟩ := hp.some; clear hp))
   go_ret2
   exact ⟨rfl, hb1.trans (hb2.mono hb1.size)⟩
  | some t =>
   rw [hr] at HR
   have HTOK := hid (readTm_tok hr)
   have HES := hid (envOf_parts ho).2.2.2.1
   have HTI := hid (fun (w2 : World) (a : Nat) (p1 : Option Addr) (hn : NIn w2 (fun _ => True) t a) (he : EIn w2 (fun _ => True) l.reverse p1) => typeIn_any hn HTOK.out he HES.out (Below.refl _ _))
   show Calls _ _ _ w (TypPost (t.typ l.reverse) w)
   cases hty : t.typ l.reverse with
   | none =>
    rw [hty] at HTI
    have HTI2 := hid (fun w2 a p1 hn he => (show Calls Tryz.prog 30 #[.pointer (some ⟨a, 0, none⟩), .pointer p1] w2 fun e w' => e = .returned (.tuple #[.nilIface, .bool false]) ∧ Below w2.heap.size w2 w' from HTI.out w2 a p1 hn he))
    clear ho hr HTI hty
    go_enter Tryz.func11, Tryz.ntmps11
    go_wp2_with (first | (go_at_call 30; refine (HTI2.out _ _ _ HN.out HE.out).mono ?_; rintro e w3 ⟨rfl, hb3⟩) | (go_at_call 29; have _ := hb1; refine (HR.out _).mono ?_; rintro e w2 hp; obtain ⟨a, rfl, hb2, hn2⟩ := hp.some; have HN := hid (hn2.keep (fun _ _ _ => rfl) (fun _ _ _ => trivial)); have HE := hid ((HE1.out.under hb2).keep (fun _ _ _ => rfl) (fun _ _ _ => trivial)); clear hp hn2) | (go_at_call 28; refine HC.out.mono ?_; rintro e w1 hp; obtain ⟨p1, rfl, hb1, he1⟩ := hp.some; have HE1 := hid he1; clear hp he1))
    go_ret2
    exact ⟨rfl, hb1.trans ((hb2.trans (hb3.mono hb2.size)).mono hb1.size)⟩
   | some ty =>
    rw [hty] at HTI
    have HTT := hid (fun W => typeText_any ty (by have := typ_small hty; have := tyw ty; omega) W)
    obtain ⟨u, v, hv⟩ := ty.val_iface
    rw [tyV, hv] at HTI
    rw [hv] at HTT
    have HTI2 := hid (fun w2 a p1 hn he => (show Calls Tryz.prog 30 #[.pointer (some ⟨a, 0, none⟩), .pointer p1] w2 fun e w' => e = .returned (.tuple #[.iface u v, .bool true]) ∧ Below w2.heap.size w2 w' from HTI.out w2 a p1 hn he))
    clear ho hr HTI hty hv
    go_enter Tryz.func11, Tryz.ntmps11
    go_wp2_with (first | (go_at_call 31; have _ := hb3; refine (HTT.out _).mono ?_; rintro e w4 ⟨rfl, hb4⟩) | (go_at_call 30; refine (HTI2.out _ _ _ HN.out HE.out).mono ?_; rintro e w3 ⟨rfl, hb3⟩) | (go_at_call 29; have _ := hb1; refine (HR.out _).mono ?_; rintro e w2 hp; obtain ⟨a, rfl, hb2, hn2⟩ := hp.some; have HN := hid (hn2.keep (fun _ _ _ => rfl) (fun _ _ _ => trivial)); have HE := hid ((HE1.out.under hb2).keep (fun _ _ _ => rfl) (fun _ _ _ => trivial)); clear hp hn2) | (go_at_call 28; refine HC.out.mono ?_; rintro e w1 hp; obtain ⟨p1, rfl, hb1, he1⟩ := hp.some; have HE1 := hid he1; clear hp he1))
    go_ret2
    exact ⟨rfl, hb1.trans ((hb2.trans ((hb3.trans (hb4.mono hb3.size)).mono hb2.size)).mono hb1.size)⟩
theorem implTermTyped_any (s : ByteArray) (hs : s.size ≤ 400000000) (w : World) : Calls Tryz.prog 14 #[.string s] w fun e w' => e = .returned (.bool (typOf [] [] s).isSome) ∧ Below w.heap.size w w' := by
 have HC := hid (fun W => implTermType_any [] [] s hs none none 0 0 0 0 W rfl rfl (by omega) (by omega) (fun i v h => by simp at h) (fun i v h => by simp at h) (fun s h => by cases h) (fun s h => by cases h))
 unfold TypPost at HC
 generalize (typOf [] [] s).isSome = b at HC ⊢
 generalize txtO (typOf [] [] s) = r at HC
 go_enter Tryz.func14, Tryz.ntmps14
 go_wp2_with (go_at_call 11; refine (HC.out _).mono ?_; rintro e w1 ⟨rfl, hb1⟩)
 go_ret
 exact ⟨rfl, hb1⟩
end Go.Proofs.YtfogjomebcponaaGreatDoor
