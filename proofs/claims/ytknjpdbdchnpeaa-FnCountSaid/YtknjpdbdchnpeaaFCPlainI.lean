/- TypePlain, of the program and of the model. -/
import Derived.Test.YtknjpdbdchnpeaaFM4
import Derived.Test.YtknjpdbdchnpeaaFM7
import Derived.Test.YtknjpdbdchnpeaaShelf
namespace Go.Proofs.Ytknjpdbdchnpeaa
open Go.RowKit

/-- Bits, pairs, and f of them. -/
def Ty.plain : Ty → Bool
  | .bit => true
  | .pair a b => a.plain && b.plain
  | .ret a => a.plain
  | _ => false
theorem tyParts_plain {L : List UInt8} {ks : List Ty} {ty : Ty} (h : tyParts L ks = some ty) : ty.plain = ((L == [42] || L == [102]) && ks.all Ty.plain) := by
  unfold tyParts at h
  split at h
  · split at h
    · rename_i c; simp at h; subst h; rw [c.1]; simp [Ty.plain]
    · split at h
      · rename_i c; simp at h; subst h; rw [c.1]; simp [Ty.plain]
      · split at h
        · rename_i c; simp at h; subst h; rw [c.1]; simp [Ty.plain]
        · simp at h
  · split at h
    · rename_i c; simp at h; subst h; rw [c.1]; simp [Ty.plain]
    · split at h
      · rename_i c; simp at h; subst h; rw [c.1]; simp [Ty.plain]
      · simp at h
  · simp at h
theorem all_take {ks : List Ty} {j : Nat} {t : Ty} (h : (ks.take j).all Ty.plain = true) (hk : ks[j]? = some t) (hp : t.plain = true) : (ks.take (j + 1)).all Ty.plain = true := by
  rw [List.take_add_one, hk]; simp [h, hp]
theorem all_no {ks : List Ty} {j : Nat} {t : Ty} (hk : ks[j]? = some t) (hp : t.plain = false) : ks.all Ty.plain = false := by
  rw [List.all_eq_false]; exact ⟨t, List.mem_of_getElem? hk, by simp [hp]⟩

set_option maxRecDepth 100000 in
set_option maxHeartbeats 2000000 in
theorem l1Plain_any {w0 : World} {S : Nat → Prop} {t : Tree} {h : Hd} (ht : TIn w0 S t h) : t.wt ≤ 12000 → ∀ ty, t.ty = some ty → ∀ w, Kept w0 w → w0.heap.size ≤ w.heap.size →
    Calls Try.prog 49 #[.agg #[.string h.a, .slice h.p h.l h.c]] w fun e w' => e = .returned (.bool ty.plain) ∧ Below w.heap.size w w' := by
  induction ht with
  | atom s hne hm =>
    intro _ ty hty w _ _
    have he := isEmpty_not s hne
    have hpl : ty.plain = true := by
      rw [Tree.ty] at hty; split at hty
      · simp at hty; subst hty; rfl
      · simp at hty
    have HPL := hid hpl
    clear hpl hty
    go_enter Try.func49, Try.ntmps49
    go_wp2
    go_ret
    exact ⟨ret_bool HPL.out.symm, (Below.refl _ _).alloc (by simp) _⟩
  | node ps b cap A hp hl hc hS hA hB hps ih =>
    intro hwt ty hty w hk hw
    obtain ⟨q, qs, rfl⟩ : ∃ q qs, ps = q :: qs := by cases ps with | nil => simp at hp | cons q qs => exact ⟨q, qs, rfl⟩
    have hlen := wts_length (q :: qs)
    rw [Tree.wt] at hwt
    have hq := (hps 0 q rfl).text
    rw [Tree.ty] at hty
    cases hks : Tree.tys qs with
    | none => rw [hks] at hty; simp at hty
    | some ks =>
      rw [hks] at hty; simp only at hty
      have hpl := tyParts_plain hty
      rw [← hq] at hpl
      obtain ⟨x, hx⟩ : ∃ x, x = (A 0).a := ⟨_, rfl⟩
      rw [← hx] at hpl
      obtain ⟨n, hn⟩ : ∃ n, n = qs.length := ⟨_, rfl⟩
      have hkl : ks.length = n := by rw [tys_length qs ks hks, hn]
      have hlq : (q :: qs).length = n + 1 := by rw [hn]; rfl
      rw [hlq] at hp hl hA hB hlen ⊢
      have c0 : w.cell? ⟨b, 0, none⟩ = some (.string x) := by have := hk.cell (hA 0 hp); rw [hx]; simpa using this
      have c1 : ∀ o, (w.alloc o).cell? ⟨b, 0, none⟩ = some (.string x) := fun o => (World.cell?_of_block (w := w) (heap_alloc_old w o (World.block_lt_of_cell? w _ c0))).trans c0
      have HPL := hid hpl
      have HKL := hid hkl
      have HN := hid hn
      have HG := hid (tys_get qs ks hks)
      have HIH := hid ih
      have HA := hid hA
      have HB := hid hB
      have HK := hid hk
      have HWT := hid hwt
      clear hpl hkl hn hx hty hks ih hA hB hk hps hlq hq hwt
      have hn2 : n + 1 ≤ 12000 := by have := HWT.out; omega
      by_cases hhd : x.toList = [42] ∨ x.toList = [102]
      · have HHD := hid hhd
        have t1 : (!(x.toList == [42]) && !(x.toList == [102])) = false := by rcases hhd with e | e <;> rw [e] <;> rfl
        have hplain : ty.plain = ks.all Ty.plain := by
          rw [HPL.out]; rcases hhd with e | e <;> rw [e] <;> simp
        have HP2 := hid hplain
        have key : ∀ (d1 d2 : Bool), (!(x.toList == [42])) = d1 → (d1 = true → (!(x.toList == [102])) = false) → Calls Try.prog 49 #[.agg #[.string ByteArray.empty, .slice (some ⟨b, 0, none⟩) (n + 1) cap]] w fun e w' => e = .returned (.bool ty.plain) ∧ Below w.heap.size w w' := by
          intro d1 d2 hd1 hd2
          clear hhd t1 hplain d2
          cases d1
          all_goals
            try have hd3 := hd2 rfl
            clear hd2
            go_enter Try.func49, Try.ntmps49
            go_wp2_with fail
            go_loopw [3] (fun v wr => ∃ j : Nat, j ≤ n ∧ v = .int .i64 ((j : Int) + 1) ∧ Hid ((ks.take j).all Ty.plain = true) ∧ Below (w.heap.size + 1) (w.alloc (.cells #[.string ByteArray.empty, .slice (some ⟨b, 0, none⟩) (n + 1) cap] 56)) wr) (fun v _ => n + 1 - (intOf v).toNat)
            case atStart => exact ⟨0, Nat.zero_le _, rfl, rfl, Below.refl _ _⟩
            case round =>
              obtain ⟨j, hj, rfl, hall, hbel⟩ := hrel
              have hz := hbel.size
              simp at hz
              have kb : Kept w wr := ((Kept.refl w).alloc (Nat.le_refl _) _).below hbel (by omega)
              have e1 := cells_of_pair (block_below (heap_new w (.cells #[.string ByteArray.empty, .slice (some ⟨b, 0, none⟩) (n + 1) cap] 56) w.heap.size rfl) hbel (by omega))
              have HBW : Hid (Below w.heap.size w wr) := ((Below.refl _ _).alloc (by simp) _).trans (hbel.mono (by omega))
              by_cases hlt : j < n
              · have kw : Kept w0 wr := HK.out.trans kb hw
                have ca := kw.cell (HA.out (j + 1) (by omega))
                have cb := kw.cell (HB.out (j + 1) (by omega))
                obtain ⟨p, hp⟩ : ∃ p, qs[j]? = some p := ⟨_, List.getElem?_eq_getElem (by rw [← HN.out]; exact hlt)⟩
                obtain ⟨tp, htp, hpt⟩ := HG.out j p hp
                have HC := hid (HIH.out (j + 1) p (by simpa using hp) (by have := wt_part (q :: qs) (j + 1) p (by simpa using hp); have := HWT.out; omega) tp hpt wr kw (by omega))
                have HTP := hid htp
                clear hp htp hpt kw kb
                cases hpl : tp.plain with
                | true =>
                  have HPT := hid hpl
                  go_wp2_with (go_at_call 49; refine HC.out.mono ?_; rintro e w1 ⟨rfl, hb1⟩)
                  go_roundw
                  case rel => exact ⟨j + 1, by omega, by go_num, hid (all_take hall.out HTP.out HPT.out), hbel.trans (hb1.mono (by omega))⟩
                  case measure => simp [intOf]; omega
                | false =>
                  have HPT := hid hpl
                  go_wp2_with (go_at_call 49; refine HC.out.mono ?_; rintro e w1 ⟨rfl, hb1⟩)
                  go_ret
                  exact ⟨ret_bool (by rw [HP2.out, all_no HTP.out HPT.out]), HBW.out.trans (hb1.mono (by omega))⟩
              · have hjn : j = n := by omega
                have HJN := hid hjn
                clear hjn kb
                go_wp2_with fail
                go_ret
                refine ⟨ret_bool ?_, HBW.out⟩
                have := hall.out
                rw [HJN.out, List.take_of_length_le (by rw [HKL.out]; exact Nat.le_refl _)] at this
                rw [HP2.out, this]
        cases hd1 : (!(x.toList == [42])) with
        | false => exact key false false hd1 (by simp)
        | true => exact key true false hd1 (fun _ => by rw [hd1] at t1; simpa using t1)
      · have d1 : (!(x.toList == [42])) = true := by simp; exact fun e => hhd (Or.inl e)
        have d2 : (!(x.toList == [102])) = true := by simp; exact fun e => hhd (Or.inr e)
        have hplain : ty.plain = false := by
          rw [HPL.out]; simp only [Bool.not_eq_true'] at d1 d2; rw [d1, d2]; rfl
        have HP2 := hid hplain
        clear hplain hhd
        go_enter Try.func49, Try.ntmps49
        go_wp2_with fail
        go_ret
        exact ⟨ret_bool HP2.out.symm, (Below.refl _ _).alloc (by simp) _⟩

theorem indexAny_any (chars : List UInt8) : ∀ l : List UInt8, decide (0 ≤ Lib.indexAny l chars) = l.any (chars.contains ·)
  | [] => by simp [Lib.indexAny]
  | b :: l => by
    have ih := indexAny_any chars l
    have hge := Lib.indexAny_ge chars l
    rw [Lib.indexAny, List.any_cons]
    by_cases hb : chars.contains b = true
    · rw [if_pos hb, hb]; rfl
    · rw [if_neg hb]
      have hb' : chars.contains b = false := by simpa using hb
      rw [hb', Bool.false_or, ← ih]
      by_cases h1 : Lib.indexAny l chars = -1
      · simp [h1]
      · rw [if_neg (by simpa using h1)]
        have : 0 ≤ Lib.indexAny l chars := by omega
        rw [decide_eq_true this, decide_eq_true (by omega)]
/-- The letters of what is not plain. -/
def badB (b : UInt8) : Bool := ([117, 62, 38] : List UInt8).contains b
theorem write_plain : ∀ ty : Ty, ty.write.any badB = !ty.plain
  | .bit => rfl
  | .pair a b => by
    have h1 : badB 40 = false := rfl
    have h2 : badB 42 = false := rfl
    have h3 : badB 32 = false := rfl
    have h4 : badB 41 = false := rfl
    simp only [Ty.write, Ty.plain, List.any_cons, List.any_append, List.any_nil, write_plain a, write_plain b, h1, h2, h3, h4]
    cases a.plain <;> cases b.plain <;> rfl
  | .thunk c => by simp [Ty.write, Ty.plain, badB]
  | .ret a => by
    have h1 : badB 40 = false := rfl
    have h2 : badB 102 = false := rfl
    have h3 : badB 32 = false := rfl
    have h4 : badB 41 = false := rfl
    simp only [Ty.write, Ty.plain, List.any_cons, List.any_append, List.any_nil, write_plain a, h1, h2, h3, h4]
    cases a.plain <;> rfl
  | .fn a c => by simp [Ty.write, Ty.plain, badB]
  | .choice c d => by simp [Ty.write, Ty.plain, badB]
theorem write_ascii : ∀ ty : Ty, ∀ b ∈ ty.write, b.toNat < 128
  | .bit => by intro b hb; simp [Ty.write] at hb; subst hb; decide
  | .pair a c => by
    have h1 := write_ascii a; have h2 := write_ascii c
    intro b hb; simp only [Ty.write, List.mem_cons, List.mem_append, List.not_mem_nil, or_false] at hb
    rcases hb with rfl | rfl | rfl | hb | rfl | hb | rfl <;> first | exact h1 _ hb | exact h2 _ hb | decide
  | .thunk c => by
    have h1 := write_ascii c
    intro b hb; simp only [Ty.write, List.mem_cons, List.mem_append, List.not_mem_nil, or_false] at hb
    rcases hb with rfl | rfl | rfl | hb | rfl <;> first | exact h1 _ hb | decide
  | .ret c => by
    have h1 := write_ascii c
    intro b hb; simp only [Ty.write, List.mem_cons, List.mem_append, List.not_mem_nil, or_false] at hb
    rcases hb with rfl | rfl | rfl | hb | rfl <;> first | exact h1 _ hb | decide
  | .fn a c => by
    have h1 := write_ascii a; have h2 := write_ascii c
    intro b hb; simp only [Ty.write, List.mem_cons, List.mem_append, List.not_mem_nil, or_false] at hb
    rcases hb with rfl | rfl | rfl | hb | rfl | hb | rfl <;> first | exact h1 _ hb | exact h2 _ hb | decide
  | .choice a c => by
    have h1 := write_ascii a; have h2 := write_ascii c
    intro b hb; simp only [Ty.write, List.mem_cons, List.mem_append, List.not_mem_nil, or_false] at hb
    rcases hb with rfl | rfl | rfl | hb | rfl | hb | rfl <;> first | exact h1 _ hb | exact h2 _ hb | decide

/-- What TypePlain tells. -/
def plainR (s : ByteArray) : Bool := match readTy s with
  | some ty => ty.plain
  | none => false

set_option maxHeartbeats 1000000 in
theorem specTypePlain_any (s : ByteArray) (hs : s.size ≤ 400000000) (w : World) : Calls Try.prog 25 #[.string s] w fun e w' => e = .returned (.bool (plainR s)) ∧ Below w.heap.size w w' := by
  have HC := hid (fun W => l1Type_any s hs W)
  cases ht : typeTree s with
  | none =>
    have HR := hid (typeTree_none ht)
    have HT := hid ht
    clear ht
    go_enter Try.func25, Try.ntmps25
    go_wp2_with (go_at_call 44; refine (HC.out _).mono ?_; rintro e w1 hp; rw [HT.out] at hp; obtain ⟨pa, pp, pl, pc, rfl, hpl, hb1⟩ := hp.none; clear hp)
    go_ret
    exact ⟨ret_bool (by rw [plainR, HR.out]), hb1.alloc hb1.size _⟩
  | some t =>
    obtain ⟨hpt, hsz, ty, hty, hrt, hk⟩ := typeTree_some ht
    have hwt := parse_wt hpt
    have HR := hid hrt
    have HTY := hid hty
    have HT := hid ht
    clear ht hpt hty hrt hk
    go_enter Try.func25, Try.ntmps25
    go_wp2_with (first | (go_at_call 44; refine (HC.out _).mono ?_; rintro e w1 hp; rw [HT.out] at hp; obtain ⟨pa, pp, pl, pc, rfl, hb1, htr⟩ := hp.some; clear hp; have HD := hid (fun W hk hs => l1Plain_any htr hwt ty HTY.out W hk hs); clear htr) | (go_at_call 49; refine (HD.out _ ((Kept.refl _).alloc (Nat.le_refl _) _) (by simp)).mono ?_; rintro e w2 ⟨rfl, hb2⟩))
    go_ret
    have s1 := hb1.size
    exact ⟨ret_bool (by rw [plainR, HR.out]), hb1.trans (((Below.refl _ _).alloc s1 _).trans (hb2.mono (by simp; omega)))⟩

set_option maxHeartbeats 1000000 in
theorem implTypePlain_any (s : ByteArray) (hs : s.size ≤ 400000000) (w : World) : Calls Try.prog 24 #[.string s] w fun e w' => e = .returned (.bool (plainR s)) ∧ Below w.heap.size w w' := by
  have HC := hid (fun W => readType_any s hs W)
  cases hr : readTy s with
  | none =>
    have HR := hid hr
    clear hr
    go_enter Try.func24, Try.ntmps24
    go_wp2_with (go_at_call 43; refine (HC.out _).mono ?_; rintro e w1 hp; rw [HR.out] at hp; obtain ⟨rfl, hb1⟩ := hp.none; clear hp)
    go_ret
    exact ⟨ret_bool (by rw [plainR, HR.out]), hb1⟩
  | some ty =>
    have hw := readTy_write hr
    rw [Go.ByteArray.toList_eq] at hw
    have HD := hid (fun W => Try.strings_ContainsAny_laid s ({ data := #[117, 62, 38] } : ByteArray) W (by omega) (by decide) (by intro j b hb; rw [hw] at hb; exact write_ascii ty b (List.mem_of_getElem? hb)) (by intro j b hb; have := List.mem_of_getElem? hb; simp at this; rcases this with rfl | rfl | rfl <;> decide))
    have hca : Lib.containsAny s.data.toList ({ data := #[117, 62, 38] } : ByteArray).data.toList = !ty.plain := by
      rw [Lib.containsAny, indexAny_any, hw]; exact write_plain ty
    have HCA := hid hca
    have HR := hid hr
    clear hr hw hca
    go_enter Try.func24, Try.ntmps24
    go_wp2_with (first | (go_at_call 43; refine (HC.out _).mono ?_; rintro e w1 hp; rw [HR.out] at hp; obtain ⟨rfl, hb1⟩ := hp.some; clear hp) | (go_at_call 48; refine (HD.out _).mono ?_; rintro e w2 ⟨he2, hb2⟩; rw [HCA.out] at he2; subst he2))
    go_ret
    exact ⟨ret_bool (by rw [plainR, HR.out]), hb1.trans (hb2.mono hb1.size)⟩

end Go.Proofs.Ytknjpdbdchnpeaa
