/- Merged: TypeO, TypeP, LkP. -/
import Derived.Sort.QuietIn
import Derived.Test.YtocpfpahobejhaaGreatDoorLL33
import Derived.Test.YtocpfpahobejhaaGreatDoorLL30
import Derived.Test.YtocpfpahobejhaaGreatDoorLL24
namespace Go.Proofs.YtocpfpahobejhaaGreatDoor
open Go.RowKit Go.Shelf
attribute [local go_sem] Oper.semAt_some

theorem frozen_below {C : Nat} {A B : World} (h : Below C A B) {p : Addr} (hb : p.block < C) : B.frozen? p = A.frozen? p := by
  unfold World.frozen?; rw [h.block _ hb]
theorem cell_new_w (w : World) (v : Value) (t : TypeId) : (w.alloc (.cells #[v] t)).cell? ⟨w.heap.size, 0, none⟩ = some v ∧ (w.alloc (.cells #[v] t)).frozen? ⟨w.heap.size, 0, none⟩ = false := by
  have h := heap_alloc_new w (.cells #[v] t)
  constructor
  · unfold World.cell?; rw [show (⟨w.heap.size, 0, none⟩ : Addr).block = w.heap.size from rfl, h]; rfl
  · unfold World.frozen?; rw [show (⟨w.heap.size, 0, none⟩ : Addr).block = w.heap.size from rfl, h]; rfl
/-- The last type that has come. -/
def lastV (q : List (Nat × Option Ty)) : Value := match q.getLast? with
  | some x => tyV x.2
  | none => .nilIface
theorem lastV_snoc (q : List (Nat × Option Ty)) (x : Nat × Option Ty) : lastV (q ++ [x]) = tyV x.2 := by
  unfold lastV; rw [List.getLast?_append]; rfl

set_option maxRecDepth 100000 in
set_option maxHeartbeats 4000000 in
/-- THE TYPE OF A TERM IN AN ENVIRONMENT. -/
theorem typeIn_any {S : Nat → Prop} {m : Tm} {b : Nat} {env : List (ByteArray × Ty)} {pe : Option Addr} {w0 w : World} (hn : NIn w0 S m b) (hm : m.tok) (he : EIn w0 S env pe) (hv : EnvS env) (hw : Below w0.heap.size w0 w) :
    Calls Tryz.prog 70 #[.pointer (some ⟨b, 0, none⟩), .pointer pe] w fun e w' => e = .returned (.tuple #[tyV (m.typ env), .bool (m.typ env).isSome]) ∧ Below w.heap.size w w' := by
  refine (callsIn_wide (n := 5)).1 ?_
  refine callsIn_of_wp_marks Tryz.func70 rfl trivial ?_ rfl
  simp only [Tryz.ntmps70, List.size_toArray, List.length_cons, List.length_nil, Nat.reduceAdd, Nat.reduceSub, Array.replicate_succ, Array.replicate_zero, List.push_toArray, List.append_toArray, List.nil_append, List.cons_append]
  gi_wp2_with ((try refine ⟨trivial, ?_⟩); gi_at_call 97; refine (typings_in b pe _ _).mono ?_; rintro e w' ⟨rfl, rfl⟩)
  have hs := cell_new_w w .nilIface 55
  obtain ⟨w1, hw1⟩ : ∃ w1, w.alloc (.cells #[.nilIface] 55) = w1 := ⟨_, rfl⟩
  have hs1 : w1.heap.size = w.heap.size + 1 := by rw [← hw1]; simp
  have hb1 : Below w.heap.size w w1 := by rw [← hw1]; exact (Below.refl _ w).alloc (Nat.le_refl _) _
  rw [hw1] at hs ⊢
  obtain ⟨W1, hW1⟩ : ∃ W1, (w1.alloc (.cells #[.pointer (some ⟨b, 0, none⟩)] 44)).alloc (.cells #[.pointer pe] 74) = W1 := ⟨_, rfl⟩
  have hB1 : Below w1.heap.size w1 W1 := by rw [← hW1]; exact ((Below.refl _ w1).alloc (Nat.le_refl _) _).alloc (by simp) _
  have hS1 : W1.heap.size = w.heap.size + 3 := by rw [← hW1]; simp [hs1]
  have g1 : W1.heap[w1.heap.size]? = some (.cells #[.pointer (some ⟨b, 0, none⟩)] 44 (0, 0)) := by
    rw [← hW1]; exact (Below.heap_alloc _ _ _ (by simp)).trans (heap_alloc_new w1 _)
  have g2 : W1.heap[w1.heap.size + 1]? = some (.cells #[.pointer pe] 74 (0, 0)) := by
    rw [← hW1]; exact heap_new _ _ _ (by simp)
  have hBW : Below w.heap.size w W1 := hb1.trans (hB1.mono (by omega))
  have c1 : W1.cell? ⟨w.heap.size, 0, none⟩ = some .nilIface := (hB1.cell (p := ⟨w.heap.size, 0, none⟩) (by show w.heap.size < w1.heap.size; omega)).trans hs.1
  have f1 : W1.frozen? ⟨w.heap.size, 0, none⟩ = false := (frozen_below hB1 (p := ⟨w.heap.size, 0, none⟩) (by show w.heap.size < w1.heap.size; omega)).trans hs.2
  have HIT := hid (typings_iter (b := b) (pe := pe) (g1 := w1.heap.size) (g2 := w1.heap.size + 1) (w := W1) 4 hn hm he hv (hw.trans (hBW.mono hw.size)) g1 g2)
  rw [hs1] at HIT
  have hww := hw.size
  rw [hW1]
  clear hW1 hw1 hn hm he hv g1 g2
  refine wpIn_rangeIter (n := 5) (gf := 125) (lb := #[.pointer (some ⟨w.heap.size + 1, 0, none⟩), .pointer (some ⟨w.heap.size + 1 + 1, 0, none⟩)]) rfl (enters_of Tryz.func125 (by kernel_rfl) rfl) (encs := encY) (n0 := w0.heap.size) (by omega) HIT.out (by decide) (fun _ => rfl)
    (fun pre W => W.cell? ⟨w.heap.size, 0, none⟩ = some (lastV pre) ∧ W.frozen? ⟨w.heap.size, 0, none⟩ = false ∧ Below w.heap.size w W)
    (fun _ _ _ => False)
    (fun s A B hs hb => ⟨(hb.cell (p := ⟨w.heap.size, 0, none⟩) (by show w.heap.size < W1.heap.size; omega)).trans hs.1, (frozen_below hb (p := ⟨w.heap.size, 0, none⟩) (by show w.heap.size < W1.heap.size; omega)).trans hs.2.1, hs.2.2.trans (hb.mono (by omega))⟩)
    (fun _ _ _ _ hs _ => hs)
    ⟨c1, f1, hBW⟩
    (fun x => { tmps := #[.pointer (some ⟨b, 0, none⟩), .pointer pe, undef, undef, .nilIface, .bool false, .pointer (some ⟨w.heap.size, 0, none⟩), undef, tyV x.2, .pointer (some ⟨b, 0, none⟩), .pointer pe, .func (.func 125) #[] #[.pointer (some ⟨w.heap.size + 1, 0, none⟩), .pointer (some ⟨w.heap.size + 1 + 1, 0, none⟩)], .pointer (some ⟨x.1, 0, none⟩), tyV x.2, undef, undef, undef, undef], defers := [] }) ?assign ?body ?done ?stop
  case assign =>
    intro l x W K hK
    obtain ⟨k, o⟩ := x
    cases o with
    | none =>
      simp only [tyV, encY] at hK ⊢
      gi_wp2
      exact hK
    | some t =>
      obtain ⟨nt, vt, htv⟩ := t.val_iface
      simp only [tyV, encY, htv] at hK ⊢
      gi_wp2
      exact hK
  case body =>
    rintro l pre x W ⟨hc, hf, hB⟩
    obtain ⟨k, o⟩ := x
    have hA : ∀ v, Apart w0.heap.size (W1.heap.size + 2) W (W.setCell ⟨w.heap.size, 0, none⟩ v) := fun v => Apart.setCell W _ v (by show w0.heap.size ≤ w.heap.size; omega) (by show w.heap.size < W1.heap.size + 2; omega)
    cases o with
    | none =>
      simp only [tyV]
      gi_wp2
      exact ⟨KeepsOthers.setCell _ _ _, hA _, by rw [lastV_snoc]; exact World.cell?_setCell_same' _ _ _ (by rw [hc]; rfl), by rw [World.frozen?_setCell]; exact hf, hB.setCell (p := ⟨w.heap.size, 0, none⟩) (Nat.le_refl _) _⟩
    | some t =>
      obtain ⟨nt, vt, htv⟩ := t.val_iface
      simp only [tyV, htv]
      gi_wp2
      exact ⟨KeepsOthers.setCell _ _ _, hA _, by rw [lastV_snoc, tyV, htv]; exact World.cell?_setCell_same' _ _ _ (by rw [hc]; rfl), by rw [World.frozen?_setCell]; exact hf, hB.setCell (p := ⟨w.heap.size, 0, none⟩) (Nat.le_refl _) _⟩
  case done =>
    rintro D ys W hD hS ⟨hc, _, hB⟩ hK
    cases hmt : m.typ env with
    | none =>
      have hl : lastV ys = .nilIface := by
        unfold Tr at hS; rw [hmt] at hS
        obtain ⟨q', b', f, rfl, _⟩ := hS
        rw [lastV_snoc]; rfl
      rw [hl] at hc
      have HM := hid hmt
      clear hS hl hmt
      gi_wp2
      gi_quiet (fail)
      gi_wp2
      refine ⟨by simp, .inl ⟨_, _, rfl, run_takeDeferred (show (W.drewN nq).heap[D]? = _ from hK), ?_⟩⟩
      exact ⟨_, results_tmp2 rfl _ _ _, by rw [HM.out]; rfl, (hB.trans ((below_drawn W nq).mono hB.size)).trans (belowK_b (w := w) (Nat.le_refl _) _ D _ _ (by omega) (show (W.drewN nq).heap[D]? = _ from hK) rfl rfl)⟩
    | some t =>
      obtain ⟨nt, vt, htv⟩ := t.val_iface
      have hl : lastV ys = .iface nt vt := by
        unfold Tr at hS; rw [hmt] at hS
        obtain ⟨_, q', b', rfl⟩ := hS
        rw [lastV_snoc, tyV, htv]
      rw [hl] at hc
      have HM := hid hmt
      have HTV := hid htv
      clear hS hl hmt htv
      gi_wp2
      gi_quiet (fail)
      gi_wp2
      refine ⟨by simp, .inl ⟨_, _, rfl, run_takeDeferred (show (W.drewN nq).heap[D]? = _ from hK), ?_⟩⟩
      exact ⟨_, results_tmp2 rfl _ _ _, by rw [HM.out, tyV, HTV.out]; rfl, (hB.trans ((below_drawn W nq).mono hB.size)).trans (belowK_b (w := w) (Nat.le_refl _) _ D _ _ (by omega) (show (W.drewN nq).heap[D]? = _ from hK) rfl rfl)⟩
  case stop =>
    rintro D c pre W _ _ h _
    exact h.elim
end Go.Proofs.YtocpfpahobejhaaGreatDoor

namespace Go.Proofs.YtocpfpahobejhaaGreatDoor
open Go.RowKit

/-- The environment that is read has the names and the types, which are small value types. -/
theorem envL_parts : ∀ (ns ts : List ByteArray) (l : List (ByteArray × Ty)), envL ns ts = some l → ns.length = ts.length → l.map Prod.fst = ns ∧ l.map (fun x => x.2.text) = ts ∧ EnvOk l ∧ EnvS l
  | [], [], l, h, _ => by obtain rfl : [] = l := Option.some.inj h; exact ⟨rfl, rfl, fun x hx => (by cases hx), fun x hx => (by cases hx)⟩
  | [], _ :: _, _, _, h => by simp at h
  | _ :: _, [], _, _, h => by simp at h
  | n :: ns, t :: ts, l, h, hl => by
    rw [envL] at h
    cases hr : readTy t with
    | none => rw [hr] at h; simp at h
    | some ty =>
      rw [hr] at h
      simp only at h
      split at h
      · rename_i hc
        cases he : envL ns ts with
        | none => rw [he] at h; simp at h
        | some l2 =>
          rw [he] at h; simp at h; subst h
          obtain ⟨h1, h2, h3, h4⟩ := envL_parts ns ts l2 he (by simpa using hl)
          have hg := readTy_good hr
          refine ⟨by simp [h1], ?_, ?_, ?_⟩
          · rw [List.map_cons, h2]
            congr 1
            exact (bytes_of_toList (readTy_write hr)).symm
          · intro x hx
            rcases List.mem_cons.1 hx with rfl | hx
            · exact ⟨hg, hc.1⟩
            · exact h3 x hx
          · intro x hx
            rcases List.mem_cons.1 hx with rfl | hx
            · exact hg.2
            · exact h4 x hx
      · simp at h
theorem envOf_parts {ns ts : List ByteArray} {l : List (ByteArray × Ty)} (h : envOf ns ts = some l) : l.map Prod.fst = ns ∧ l.map (fun x => x.2.text) = ts ∧ EnvOk l.reverse ∧ EnvS l.reverse ∧ ns.length ≤ 8 ∧ ns.length = ts.length := by
  unfold envOf at h
  split at h
  · rename_i hc
    obtain ⟨h1, h2, h3, h4⟩ := envL_parts ns ts l h hc.1
    exact ⟨h1, h2, fun x hx => h3 x (List.mem_reverse.1 hx), fun x hx => h4 x (List.mem_reverse.1 hx), hc.2, hc.1⟩
  · simp at h
/-- The type of a text in an environment. -/
def typOf (ns ts : List ByteArray) (s : ByteArray) : Option Ty := match envOf ns ts, readTm s with
  | some l, some m => m.typ l.reverse
  | _, _ => none
def TypPost (o : Option Ty) (w : World) (e : Ending) (w' : World) : Prop := e = .returned (.tuple #[.string (txtO o), .bool o.isSome]) ∧ Below w.heap.size w w'
theorem readTm_tok {s : ByteArray} {m : Tm} (h : readTm s = some m) : m.tok := by
  obtain ⟨t, _, ht, _⟩ := readTm_inv h
  exact tm_tok t [] m ht

set_option maxRecDepth 100000 in
set_option maxHeartbeats 2000000 in
theorem implTermType_any (ns ts : List ByteArray) (s : ByteArray) (hs : s.size ≤ 400000000) (p q : Option Addr) (n m c d : Nat) (w : World) (hn : ns.length = n) (hm : ts.length = m) (hnb : n ≤ 400000000) (hmb : m ≤ 400000000) (hp : Vals w p (ns.map Value.string)) (hq : Vals w q (ts.map Value.string)) (hns : ∀ s ∈ ns, s.size ≤ 400000000) (hts : ∀ s ∈ ts, s.size ≤ 400000000) :
    Calls Tryz.prog 38 #[.slice p n c, .slice q m d, .string s] w (TypPost (typOf ns ts s) w) := by
  have HC := hid (readEnv_any ns ts p q n m c d w hn hm hnb hmb hp hq hns hts)
  have HR := hid (fun W => readTerm_any s hs W)
  clear hn hm hnb hmb hp hq hns hts
  unfold typOf
  cases ho : envOf ns ts with
  | none =>
    rw [ho] at HC
    cases hr : readTm s with
    | none =>
      rw [hr] at HR
      clear ho hr
      go_enter Tryz.func38, Tryz.ntmps38
      go_wp2_with (first | (go_at_call 42; have _ := hb1; refine (HR.out _).mono ?_; rintro e w2 hp; obtain ⟨rfl, hb2⟩ := hp.none; clear hp) | (go_at_call 65; refine HC.out.mono ?_; rintro e w1 hp; obtain ⟨rfl, hb1⟩ := hp.none; clear hp))
      go_ret2
      exact ⟨rfl, hb1.trans (hb2.mono hb1.size)⟩
    | some t =>
      rw [hr] at HR
      clear ho hr
      go_enter Tryz.func38, Tryz.ntmps38
      go_wp2_with (first | (go_at_call 42; have _ := hb1; refine (HR.out _).mono ?_; rintro e w2 hp; obtain ⟨a, rfl, hb2, _⟩ := hp.some; clear hp) | (go_at_call 65; refine HC.out.mono ?_; rintro e w1 hp; obtain ⟨rfl, hb1⟩ := hp.none; clear hp))
      go_ret2
      exact ⟨rfl, hb1.trans (hb2.mono hb1.size)⟩
  | some l =>
    rw [ho] at HC
    cases hr : readTm s with
    | none =>
      rw [hr] at HR
      clear ho hr
      go_enter Tryz.func38, Tryz.ntmps38
      go_wp2_with (first | (go_at_call 42; have _ := hb1; refine (HR.out _).mono ?_; rintro e w2 hp; obtain ⟨rfl, hb2⟩ := hp.none; clear hp) | (go_at_call 65; refine HC.out.mono ?_; rintro e w1 hp; obtain ⟨p1, rfl, hb1, _⟩ := hp.some; clear hp))
      go_ret2
      exact ⟨rfl, hb1.trans (hb2.mono hb1.size)⟩
    | some t =>
      rw [hr] at HR
      have HTOK := hid (readTm_tok hr)
      have HES := hid (envOf_parts ho).2.2.2.1
      have HTI := hid (fun (w2 : World) (a : Nat) (p1 : Option Addr) (hn : NIn w2 (fun _ => True) t a) (he : EIn w2 (fun _ => True) l.reverse p1) => typeIn_any hn HTOK.out he HES.out (Below.refl _ _))
      show Calls _ _ _ w (TypPost (t.typ l.reverse) w)
      cases hty : t.typ l.reverse with
      | none =>
        rw [hty] at HTI
        have HTI2 := hid (fun w2 a p1 hn he => (show Calls Tryz.prog 70 #[.pointer (some ⟨a, 0, none⟩), .pointer p1] w2 fun e w' => e = .returned (.tuple #[.nilIface, .bool false]) ∧ Below w2.heap.size w2 w' from HTI.out w2 a p1 hn he))
        clear ho hr HTI hty
        go_enter Tryz.func38, Tryz.ntmps38
        go_wp2_with (first | (go_at_call 70; refine (HTI2.out _ _ _ HN.out HE.out).mono ?_; rintro e w3 ⟨rfl, hb3⟩) | (go_at_call 42; have _ := hb1; refine (HR.out _).mono ?_; rintro e w2 hp; obtain ⟨a, rfl, hb2, hn2⟩ := hp.some; have HN := hid (hn2.keep (fun _ _ _ => rfl) (fun _ _ _ => trivial)); have HE := hid ((HE1.out.under hb2).keep (fun _ _ _ => rfl) (fun _ _ _ => trivial)); clear hp hn2) | (go_at_call 65; refine HC.out.mono ?_; rintro e w1 hp; obtain ⟨p1, rfl, hb1, he1⟩ := hp.some; have HE1 := hid he1; clear hp he1))
        go_ret2
        exact ⟨rfl, hb1.trans ((hb2.trans (hb3.mono hb2.size)).mono hb1.size)⟩
      | some ty =>
        rw [hty] at HTI
        have HTT := hid (fun W => typeText_any ty (by have := typ_small hty; have := ty_write_len ty; omega) W)
        obtain ⟨u, v, hv⟩ := ty.val_iface
        rw [tyV, hv] at HTI
        rw [hv] at HTT
        have HTI2 := hid (fun w2 a p1 hn he => (show Calls Tryz.prog 70 #[.pointer (some ⟨a, 0, none⟩), .pointer p1] w2 fun e w' => e = .returned (.tuple #[.iface u v, .bool true]) ∧ Below w2.heap.size w2 w' from HTI.out w2 a p1 hn he))
        clear ho hr HTI hty hv
        go_enter Tryz.func38, Tryz.ntmps38
        go_wp2_with (first | (go_at_call 67; have _ := hb3; refine (HTT.out _).mono ?_; rintro e w4 ⟨rfl, hb4⟩) | (go_at_call 70; refine (HTI2.out _ _ _ HN.out HE.out).mono ?_; rintro e w3 ⟨rfl, hb3⟩) | (go_at_call 42; have _ := hb1; refine (HR.out _).mono ?_; rintro e w2 hp; obtain ⟨a, rfl, hb2, hn2⟩ := hp.some; have HN := hid (hn2.keep (fun _ _ _ => rfl) (fun _ _ _ => trivial)); have HE := hid ((HE1.out.under hb2).keep (fun _ _ _ => rfl) (fun _ _ _ => trivial)); clear hp hn2) | (go_at_call 65; refine HC.out.mono ?_; rintro e w1 hp; obtain ⟨p1, rfl, hb1, he1⟩ := hp.some; have HE1 := hid he1; clear hp he1))
        go_ret2
        exact ⟨rfl, hb1.trans ((hb2.trans ((hb3.trans (hb4.mono hb3.size)).mono hb2.size)).mono hb1.size)⟩
end Go.Proofs.YtocpfpahobejhaaGreatDoor

namespace Go.Proofs.YtocpfpahobejhaaGreatDoor
open Go.RowKit

theorem look_hit {s : List UInt8} : ∀ (l : List (ByteArray × Ty)) (ty : Ty), lookR s l = some ty → ∃ n, (n, ty) ∈ l ∧ n.toList = s
  | [], ty, h => by simp [lookR] at h
  | (n, t) :: l, ty, h => by
    rw [lookR] at h
    split at h
    · rename_i hc; simp at h; subst h; exact ⟨n, List.mem_cons_self .., by simpa using hc⟩
    · obtain ⟨m, hm, hs⟩ := look_hit l ty h; exact ⟨m, List.mem_cons_of_mem _ hm, hs⟩
theorem name_atoms {l : List UInt8} (h : nameB l = true) : l ≠ [] ∧ l.length ≤ 4 ∧ (∀ b ∈ l, atomB b.toNat = true) ∧ l ≠ [48] ∧ l ≠ [49] := by
  cases l with
  | nil => simp [nameB] at h
  | cons c l =>
    simp only [nameB, Bool.and_eq_true, decide_eq_true_eq, List.all_eq_true] at h
    refine ⟨by simp, by simp; omega, ?_, ?_, ?_⟩
    · intro b hb
      rcases List.mem_cons.1 hb with rfl | hb
      · exact atomB_t (Or.inl ⟨h.1.1, h.1.2.1⟩)
      · have := h.2 b hb
        exact atomB_t (Or.inr (Or.inl ⟨this.1, this.2⟩))
    · intro e; obtain ⟨rfl, _⟩ := List.cons.inj e; have := h.1.1; revert this; decide
    · intro e; obtain ⟨rfl, _⟩ := List.cons.inj e; have := h.1.1; revert this; decide
theorem parse_name {s : ByteArray} (h : nameB s.toList = true) : parse s = some (.atom s) := by
  obtain ⟨h1, h2, h3, _, _⟩ := name_atoms h
  rw [Go.ByteArray.toList_eq] at h1 h2 h3
  refine parse_back (t := .atom s) rfl ?_ (by rw [Tree.dp]; decide) (by rw [Tree.write]; omega)
  rw [Tree.wk]
  refine ⟨?_, h3⟩
  intro e
  apply h1
  have : s.data.toList.length = 0 := by simpa using e
  exact List.length_eq_zero_iff.1 this
theorem readTm_name {s : ByteArray} (h : nameB s.toList = true) : ∃ m, readTm s = some m ∧ ∀ env, m.typ env = limT (lookR s.toList env) := by
  obtain ⟨_, _, _, h4, h5⟩ := name_atoms h
  have ht : ∃ m, (Tree.atom s).tm [] = some m := by
    refine ⟨.mk strName s (depthIn s.toList []) [] none [], ?_⟩
    rw [Tree.tm, atomTm, if_neg (fun e => e.elim h4 h5), if_pos h]
  obtain ⟨m, hm⟩ := ht
  refine ⟨m, ?_, fun env => ?_⟩
  · rw [readTm, parse_name h]
    simp only
    rw [if_pos (by rw [Tree.size]; decide), hm]
  · rw [tm_typ _ [] m env hm, Tree.typ, if_pos h]
theorem lk_facts {ns ts : List ByteArray} {s : ByteArray} (h : decide ((lkT ns ts s).size ≠ 0) = true) : ∃ ty, typOf ns ts s = some ty ∧ ty.text = lkT ns ts s ∧ ty.isVal = true ∧ readTy (lkT ns ts s) = some ty := by
  have h := of_decide_eq_true h
  cases ho : envOf ns ts with
  | none => exfalso; rw [lkT_none s ho] at h; exact h rfl
  | some l =>
    obtain ⟨h1, _, hok, _⟩ := envOf_parts ho
    have hlk := lkT_look s ho
    obtain ⟨_, hle, hv⟩ := envOf_some ho
    cases hl : lookR s.toList l.reverse with
    | none => exfalso; rw [hlk, hl] at h; exact h rfl
    | some ty =>
      rw [hl] at hlk
      obtain ⟨hg, hval⟩ := lookR_ok hok hl
      obtain ⟨n, hn, hns⟩ := look_hit _ _ hl
      have hmem : n ∈ ns := by
        rw [← h1]
        exact List.mem_map.2 ⟨(n, ty), List.mem_reverse.1 hn, rfl⟩
      have hnm : nameB s.toList = true := by
        unfold validB at hv
        simp only [Bool.and_eq_true] at hv
        have := List.all_eq_true.1 hv.1 n hmem
        rw [← hns]; exact this
      obtain ⟨m, hm, hty⟩ := readTm_name hnm
      refine ⟨ty, ?_, hlk.symm, hval, ?_⟩
      · rw [typOf, ho, hm]
        simp only
        rw [hty, limT_look hok, hl]
      · rw [hlk]; exact readTy_good_text hg
end Go.Proofs.YtocpfpahobejhaaGreatDoor
