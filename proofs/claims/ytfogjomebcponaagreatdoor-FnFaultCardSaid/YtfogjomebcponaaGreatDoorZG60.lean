/- Merged: KidU, FltS. -/
import Derived.Test.YtfogjomebcponaaGreatDoorZGSKidT
namespace Go.Proofs.YtfogjomebcponaaGreatDoor
open Go.RowKit
set_option maxRecDepth 100000
set_option maxHeartbeats 8000000
theorem hasB_txt (l : List (Option Ty)) : hasB (l.map txtO) [] = !(l.all Option.isSome) := by
 cases hq : l.all Option.isSome with
 | true =>
  cases hh : hasB (l.map txtO) [] with
  | false => rfl
  | true =>
   obtain ⟨x, hx, hn⟩ := (hasB_nil _).1 hh
   obtain ⟨o, ho, rfl⟩ := List.mem_map.1 hx
   rw [(txtO_nil o).1 hn] at ho
   have := List.all_eq_true.1 hq none ho
   simp at this
 | false =>
  obtain ⟨o, ho, hn⟩ := List.all_eq_false.1 hq
  refine (hasB_nil _).2 ⟨txtO o, List.mem_map.2 ⟨o, ho, rfl⟩, (txtO_nil o).2 ?_⟩
  cases o with
  | none => rfl
  | some t => simp at hn
theorem vals_sv {w : World} {p : Option Addr} {n c : Nat} {l : List ByteArray} (h : SV w p n c l) : Vals w p (l.map Value.string) := fun i v hi => by
 rw [List.getElem?_map] at hi
 cases hx : l[i]? with
 | none => rw [hx] at hi; simp at hi
 | some x =>
  rw [hx] at hi; simp at hi; subst hi
  obtain ⟨g, rfl, hc⟩ := h.2.2 i x hx
  exact ⟨g, 0, rfl, by rw [Nat.zero_add]; exact hc⟩
theorem all_map {l : List (Option Ty)} (h : l.all Option.isSome = true) : ∃ ks : List Ty, l = ks.map some := by
 induction l with
 | nil => exact ⟨[], rfl⟩
 | cons o l ih =>
  simp only [List.all_cons, Bool.and_eq_true] at h
  obtain ⟨ks, rfl⟩ := ih h.2
  cases o with
  | none => simp at h
  | some t => exact ⟨t :: ks, rfl⟩
theorem typ_atom (w0 : World) (a : ByteArray) (hne : a.size ≠ 0) (hm : a.size ≤ 400000000) : TypAsk w0 (.atom a) ⟨a, none, 0, 0⟩ := by
 intro env ns ts np tp nn nc tc w hk henv hns hts hsn hst hb
 have he := ise a hne
 have HN := hid (fun W => l2Name_any a hm W)
 have k1 : Kept w (w.alloc (.cells #[.string a, .slice none 0 0] 43)) := (Kept.refl w).alloc (Nat.le_refl _) _
 have hl : ns.length = nn := hsn.1
 have hl2 : ts.length = nn := hst.1
 have hv1 := hid (vals_sv (hsn.kept k1))
 have hv2 := hid (vals_sv (hst.kept k1))
 have HL := hid (l3Look_any a ns ts np tp nn nc tc (w.alloc (.cells #[.string a, .slice none 0 0] 43)) hl hl2 (by omega) hv1.out hv2.out)
 have hlk : l3 a.toList ns ts nn = txtO (lookR a.toList env) := by
  have := l3_look a.toList env.reverse
  rw [List.reverse_reverse] at this
  rw [hns, hts, ← this]
  congr 1
  rw [← hl, hns, List.length_map]
 rw [hlk] at HL
 have HB1 := hid (show Below w.heap.size w (w.alloc (.cells #[.string a, .slice none 0 0] 43)) from (Below.refl _ _).alloc (Nat.le_refl _) _)
 cases e2 : nameB a.toList with
 | true =>
  rw [e2] at HN
  have hty : (Tree.atom a).typ env = lookR a.toList env := by rw [Tree.typ, if_pos e2, limT_look henv]
  rw [hty]
  clear hsn hst hv1 hv2 hlk hk hb e2 hty hns hts hl hl2 k1 henv
  go_enter Tryz.func27, Tryz.ntmps27
  go_wp2_with (first | (go_at_call 57; refine (HN.out _).mono ?_; rintro e w1 ⟨rfl, rfl⟩) | (go_at_call 59; refine HL.out.mono ?_; rintro e w2 ⟨rfl, rfl⟩))
  go_ret
  exact ⟨rfl, HB1.out⟩
 | false =>
  rw [e2] at HN
  have hty : (Tree.atom a).typ env = some .bit := by rw [Tree.typ, if_neg (by rw [e2]; simp)]
  rw [hty]
  clear hsn hst hv1 hv2 hlk hk hb e2 hty hns hts hl hl2 k1 HL henv
  go_enter Tryz.func27, Tryz.ntmps27
  go_wp2_with (go_at_call 57; refine (HN.out _).mono ?_; rintro e w1 ⟨rfl, rfl⟩)
  go_ret
  exact ⟨rfl, HB1.out⟩
theorem typ_node {w0 : World} {S : Nat → Prop} {q : Tree} {qs : List Tree} {b cap n N : Nat} {A : Nat → Hd} (hn : qs.length = n) (hN : N = n + 1) (hwt : Tree.wts qs ≤ 12000)
    (hA : ∀ i, i < n + 1 → w0.cell? ⟨b, i * 2, none⟩ = some (.string (A i).a)) (hB : ∀ i, i < n + 1 → w0.cell? ⟨b, i * 2 + 1, none⟩ = some (.slice (A i).p (A i).l (A i).c))
    (hps : ∀ i p, (q :: qs)[i]? = some p → TIn w0 S p (A i)) (hwf : Tree.srt (.node (q :: qs)) ≠ none)
    (ih : ∀ i p, (q :: qs)[i]? = some p → p.srt ≠ none → TypAsk w0 p (A i)) : TypAsk w0 (.node (q :: qs)) ⟨ByteArray.empty, some ⟨b, 0, none⟩, N, cap⟩ := by
 intro env ns ts np tp nn nc tc w hk henv hns hts hsn hst hbn
 obtain ⟨h0, hsl, hft⟩ := wf_node hwf
 obtain ⟨ht0, htk⟩ := part_texts hn hA hps
 rw [Tree.wt, Tree.wts] at hbn
 have hq1 := wt_pos q
 have hw := kep hk
 obtain ⟨W0, hW0⟩ : ∃ W0, w.alloc (.cells #[.string ByteArray.empty, .slice (some ⟨b, 0, none⟩) N cap] 43) = W0 := ⟨_, rfl⟩
 have k0 : Kept w W0 := by rw [← hW0]; exact (Kept.refl w).alloc (Nat.le_refl _) _
 have hk0 : Kept w0 W0 := hk.trans k0 hw
 have HB0 := hid (show Below w.heap.size w W0 by rw [← hW0]; exact (Below.refl _ _).alloc (Nat.le_refl _) _)
 have hbx := hea w (.cells #[.string ByteArray.empty, .slice (some ⟨b, 0, none⟩) N cap] 43) w.heap.size rfl
 rw [hW0] at hbx
 have HKK := hid (l3Kids_go (cap := cap) hn hN hwt hA hB hps hwf ih env ns ts np tp nn nc tc W0 hk0 henv hns hts (hsn.kept k0) (hst.kept k0) (by omega))
 obtain ⟨R, hR⟩ : ∃ R, Tree.kts q.text.toList (tyIn (shape q.text.toList) qs) (xsOf (shape q.text.toList) qs) env [] (shape q.text.toList) qs = R := ⟨_, rfl⟩
 have hlen := kts_len q.text.toList (tyIn (shape q.text.toList) qs) (xsOf (shape q.text.toList) qs) env (shape q.text.toList) qs [] hsl
 have hgt := fun t (h : tyIn (shape q.text.toList) qs = some t) => fits_tyIn _ _ hft t h
 have hkok := kts_ok q.text.toList (tyIn (shape q.text.toList) qs) (xsOf (shape q.text.toList) qs) env henv (fun t hl h => ⟨(hgt t h).1, by have := (hgt t h).2; rw [hl] at this; exact (Option.some.inj this).symm⟩) (shape q.text.toList) qs [] [] (fun p hp env v t h1 h2 h3 => typ_ok p env v t h1 h2 h3) hft (fun i t h => by simp at h) rfl
 have hty : (Tree.node (q :: qs)).typ env = if R.all Option.isSome = true then limT (joinT q.text.toList (tyIn (shape q.text.toList) qs) [] env R[0]?.join R[1]?.join R[2]?.join) else none := by
  rw [Tree.typ, hR]
 rw [hR] at HKK hlen hkok
 rw [hty]
 have hll := fun W hkW => lam_part hn hN hwt hA hB hps hsl hft W hkW (kep hkW)
 have HS := hid (show ∀ (W : World) (p3 : Option Addr) (n3 c3 : Nat), SV W p3 n3 c3 (R.map txtO) → Calls Tryz.prog 61 #[.slice p3 n3 c3, .string ByteArray.empty] W fun e w' => e = .returned (.bool (!(R.all Option.isSome))) ∧ W = w' from fun W p3 n3 c3 hv => by
  have h1 : (R.map txtO).length = n3 := hv.1
  have h4 := sha q.text.toList
  have h5 : (shape q.text.toList).countP Sg.isK ≤ (shape q.text.toList).length := List.countP_le_length
  have := lha ByteArray.empty (R.map txtO) p3 n3 c3 W hv (by rw [List.length_map] at h1; simp at hlen; omega)
  rw [show ByteArray.empty.toList = [] by rw [Go.ByteArray.toList_eq]; rfl, hasB_txt] at this
  exact this)
 have HK2 := hid (show Calls Tryz.prog 60 #[.agg #[.string ByteArray.empty, .slice (some ⟨b, 0, none⟩) N cap], .slice np nn nc, .slice tp nn tc] W0 fun e w' => ∃ q3 n3 c3, e = .returned (.slice q3 n3 c3) ∧ SV w' q3 n3 c3 (R.map txtO) ∧ Below W0.heap.size W0 w' from HKK.out.mono fun e w' h => by
  obtain ⟨q3, c3, he, hv, _, hb⟩ := h.full
  exact ⟨q3, _, c3, he, hv, hb⟩)
 have HT0 := hid ht0
 have KC := hid (fun W (hb : Below W0.heap.size W0 W) => cel (blo hbx hb (by have := HB0.out.size; have := lt_of_block hbx; omega)))
 have kc0 := KC.out W0 (Below.refl _ _)
 have HW0 := hid hW0
 cases hall : R.all Option.isSome with
 | false =>
  rw [hall] at HS
  rw [if_neg (by simp)]
  clear hty hlen hkok hR HKK hll hn hN hA hB hps hwf ih hsn hst hns hts hbn h0 hsl hft ht0 htk hgt henv hbx hall k0 hk0 hk hW0
  go_enter Tryz.func27, Tryz.ntmps27
  go_wp2_with fail
  rw [HW0.out]
  go_wp2_with (first
   | (go_at_call 61; refine (HS.out _ _ _ _ V1.out).mono ?_; rintro e w2 ⟨rfl, rfl⟩)
   | (go_at_call 60; refine HK2.out.mono ?_; rintro e w1 ⟨q3, n3, c3, rfl, hv1, hb1⟩; have V1 := hid hv1; have kc1 := KC.out w1 hb1; clear hv1))
  go_ret
  exact ⟨rfl, HB0.out.trans (hb1.mono HB0.out.size)⟩
 | true =>
  rw [hall] at HS
  rw [if_pos rfl]
  obtain ⟨ks, rfl⟩ := all_map hall
  have hkl : ks.length = (shape q.text.toList).countP Sg.isK := by simpa using hlen
  have hkt : (ks.map some).map txtO = ks.map Ty.text := by rw [List.map_map]; rfl
  have hjn : ∀ i : Nat, (ks.map some)[i]?.join = ks[i]? := (all_some rfl).2
  rw [hkt] at HK2
  rw [hkt] at HS
  rw [hjn, hjn, hjn]
  have HJ := hid (fun (W : World) (kp : Option Addr) (n3 c3 : Nat) (hkW : Kept w0 W) (hv : SV W kp n3 c3 (ks.map Ty.text)) => l3Join_any q.text ByteArray.empty b N cap (tyIn (shape q.text.toList) qs) env ks n3 kp c3 W (hkW.cell HT0.out) (by omega) h0 (by have := hv.1; simpa using this) hkl
   (fun i t ht => by simpa using hkok i t (by simp [ht])) hgt
   (fun h => by obtain ⟨x, hx, h2, v1, v2, y1, y2, hL⟩ := (hll W hkW).1 h; exact ⟨x, hx, h2, v1, v2, y1, y2, fun W2 hk2 => hL W2 hk2 (kep hk2)⟩)
   (fun h => by obtain ⟨x, hx, h2, v1, v2, y1, y2, hL⟩ := (hll W hkW).2 h; exact ⟨x, hx, h2, v1, v2, y1, y2, fun W2 hk2 => hL W2 hk2 (kep hk2)⟩) hv)
  generalize limT (joinT q.text.toList (tyIn (shape q.text.toList) qs) [] env ks[0]? ks[1]? ks[2]?) = J at HJ ⊢
  have HK0 := hid hk0
  clear hty hlen hkok hR HKK hll hn hN hA hB hps hwf ih hsn hst hns hts hbn h0 hsl hft ht0 htk hgt henv hbx hall k0 hk0 hk hkt hjn hkl hW0
  go_enter Tryz.func27, Tryz.ntmps27
  go_wp2_with fail
  rw [HW0.out]
  go_wp2_with (first
   | (go_at_call 62; have _ := hb1; refine (HJ.out _ _ _ _ (HK0.out.trans (Kept.of_below hb1 (Nat.le_refl _)) (kep HK0.out)) V1.out).mono ?_; rintro e w3 ⟨rfl, hb3⟩)
   | (go_at_call 61; refine (HS.out _ _ _ _ V1.out).mono ?_; rintro e w2 ⟨rfl, rfl⟩)
   | (go_at_call 60; refine HK2.out.mono ?_; rintro e w1 ⟨q3, n3, c3, rfl, hv1, hb1⟩; have V1 := hid hv1; have kc1 := KC.out w1 hb1; clear hv1))
  go_ret
  exact ⟨rfl, HB0.out.trans ((hb1.trans (hb3.mono hb1.size)).mono HB0.out.size)⟩
theorem l3Type_any {w0 : World} {S : Nat → Prop} {t : Tree} {h : Hd} (ht : TIn w0 S t h) : t.wt ≤ 12000 → t.ok → t.srt ≠ none → TypAsk w0 t h := by
 induction ht with
 | atom a hne hm => intro _ hok _; exact typ_atom w0 a hne (by have := hok.1; omega)
 | node ps b cap A hp hl hc hS hA hB hps ih =>
  intro hwt hok hwf
  obtain ⟨q, qs, rfl⟩ : ∃ q qs, ps = q :: qs := by cases ps with | nil => simp at hp | cons q qs => exact ⟨q, qs, rfl⟩
  rw [Tree.wt] at hwt
  rw [Tree.ok] at hok
  simp only [List.length_cons] at hl hA hB
  exact typ_node (S := S) (n := qs.length) rfl rfl (by rw [Tree.wts] at hwt; omega) hA hB hps hwf (fun i p hp hw => ih i p hp (by have := wtp (q :: qs) i p hp; omega) (okp _ hok i p hp) hw)
theorem txtO_e8 (o : Option Ty) : (txtO o).toList.isEmpty = !o.isSome := by
 cases o with
 | none => rw [txt_none]; rfl
 | some t =>
  have := ty_nil t
  rw [txtO]
  cases h : t.text.toList with
  | nil => exact absurd h this
  | cons => rfl
def txtF : Option Tree → ByteArray
 | some t => t.txt
 | none => ByteArray.empty
def FltAsk (w0 : World) (t : Tree) (h : Hd) : Prop := ∀ (env : List (ByteArray × Ty)) (ns ts : List ByteArray) (np tp : Option Addr) (nn nc tc : Nat) (w : World), Kept w0 w → EnvOk env →
 ns = env.reverse.map Prod.fst → ts = env.reverse.map (fun x => x.2.text) → SV w np nn nc ns → SV w tp nn tc ts → nn + 4 * t.wt ≤ 100000 →
 Calls Tryz.prog 34 #[.agg #[.string h.a, .slice h.p h.l h.c], .slice np nn nc, .slice tp nn tc] w fun e w' => e = .returned (.string (txtF (t.flt env))) ∧ Below w.heap.size w w'
theorem flts_step {cs : List Sg} {qs : List Tree} {j n : Nat} {c : Sg} {p : Tree} (hn : cs.length = n) (hc : cs[j]? = some c) (hp : qs[j]? = some p) (self : Tree) (h : List UInt8) (ty : Option Ty) (xs : List ByteArray) (env : List (ByteArray × Ty)) (fo : Option Ty) :
    Tree.flts self h ty xs env fo (cs.drop j) (qs.drop j) = if c.isK = true then
     (match (if decide (j + 1 = n) = true then bndT h ty fo else some []) with
     | none => self
     | some bts => match Tree.flt (enw env (if decide (j + 1 = n) = true then xs else []) bts) p with
      | some f => f
      | none => Tree.flts self h ty xs env (if fo.isSome = true then fo else Tree.typ env p) (cs.drop (j + 1)) (qs.drop (j + 1)))
     else Tree.flts self h ty xs env fo (cs.drop (j + 1)) (qs.drop (j + 1)) := by
 have hj := (List.getElem?_eq_some_iff.1 hc).1
 have e : (cs.drop (j + 1) = []) ↔ j + 1 = n := by
  rw [List.drop_eq_nil_iff]; omega
 rw [dro hc, dro hp, Tree.flts]
 obtain ⟨r, hr⟩ : ∃ r, cs.drop (j + 1) = r := ⟨_, rfl⟩
 rw [hr] at e ⊢
 have e2 : r.isEmpty = decide (j + 1 = n) := by
  cases r with
  | nil => rw [decide_eq_true (e.1 rfl)]; rfl
  | cons x r => rw [decide_eq_false (fun h => by have := e.2 h; cases this)]; rfl
 rw [e2]
 rfl
theorem bnd_three (h : List UInt8) (ty : Option Ty) (qs : List Tree) (hsl : (shape h).length = qs.length) (last : Bool) (first : Option Ty) :
    (bnd last (xsOf (shape h) qs) = [] ∧ (if last = true then xsOf (shape h) qs else []) = [] ∧ (if last = true then bndT h ty first else some []) = some []) ∨
    (∃ x xs, bnd last (xsOf (shape h) qs) = x :: xs ∧ bndT h ty first = none ∧ (if last = true then bndT h ty first else some []) = none) ∨
    (∃ x xs bts, bnd last (xsOf (shape h) qs) = x :: xs ∧ bndT h ty first = some bts ∧ bts.length = (x :: xs).length ∧ (if last = true then xsOf (shape h) qs else []) = x :: xs ∧ (if last = true then bndT h ty first else some []) = some bts) := by
 have hx := xsOf_count (shape h) qs hsl
 cases last with
 | false => left; exact ⟨rfl, rfl, rfl⟩
 | true =>
  have hb : bnd true (xsOf (shape h) qs) = xsOf (shape h) qs := rfl
  rw [hb, if_pos rfl, if_pos rfl]
  cases hq : xsOf (shape h) qs with
  | nil =>
   left
   refine ⟨rfl, rfl, ?_⟩
   rw [hq] at hx
   cases ht : bndT h ty first with
   | none =>
    exfalso
    unfold bndT at ht
    split at ht
    ·rename_i c; rw [c] at hx; exact absurd (show 0 = 1 from hx) (by decide)
    ·split at ht
     ·rename_i c; rw [c] at hx; exact absurd (show 0 = 2 from hx) (by decide)
     ·split at ht
      ·rename_i c; rw [c] at hx; exact absurd (show 0 = 1 from hx) (by decide)
      ·split at ht <;> simp at ht
   | some ts =>
    have := bndT_cnt ht
    rw [← hx] at this
    rw [List.length_eq_zero_iff.1 this]
  | cons x xs =>
   right
   cases ht : bndT h ty first with
   | none => left; exact ⟨x, xs, rfl, rfl, rfl⟩
   | some bts =>
    right
    refine ⟨x, xs, bts, rfl, rfl, ?_, rfl, rfl⟩
    rw [bndT_cnt ht, ← hx, hq]
theorem flt_node {w0 : World} {S : Nat → Prop} {q : Tree} {qs : List Tree} {b cap n N : Nat} {A : Nat → Hd} (hn : qs.length = n) (hN : N = n + 1) (hwt : Tree.wts qs ≤ 12000)
    (hA : ∀ i, i < n + 1 → w0.cell? ⟨b, i * 2, none⟩ = some (.string (A i).a)) (hB : ∀ i, i < n + 1 → w0.cell? ⟨b, i * 2 + 1, none⟩ = some (.slice (A i).p (A i).l (A i).c))
    (hps : ∀ i p, (q :: qs)[i]? = some p → TIn w0 S p (A i)) (hwf : Tree.srt (.node (q :: qs)) ≠ none)
    (hself : TypAsk w0 (.node (q :: qs)) ⟨ByteArray.empty, some ⟨b, 0, none⟩, N, cap⟩)
    (htxt : ∀ W, Kept w0 W → Calls Tryz.prog 71 #[.agg #[.string ByteArray.empty, .slice (some ⟨b, 0, none⟩) N cap]] W fun e w' => e = .returned (.string (Tree.node (q :: qs)).txt) ∧ Below W.heap.size W w')
    (hkt : ∀ (i : Nat) (p : Tree), (q :: qs)[i]? = some p → p.srt ≠ none → TypAsk w0 p (A i))
    (hfne : ∀ (i : Nat) (p : Tree), (q :: qs)[i]? = some p → ∀ env f, Tree.flt env p = some f → f.txt.toList ≠ [])
    (ih : ∀ i p, (q :: qs)[i]? = some p → p.srt ≠ none → FltAsk w0 p (A i)) : FltAsk w0 (.node (q :: qs)) ⟨ByteArray.empty, some ⟨b, 0, none⟩, N, cap⟩ := by
 intro env ns ts np tp nn nc tc w hk henv hns hts hsn hst hbn
 obtain ⟨h0, hsl, hft⟩ := wf_node hwf
 have h4 := sha q.text.toList
 have hw := kep hk
 obtain ⟨ht0, htk⟩ := part_texts hn hA hps
 have hnl : ns.length = nn := hsn.1
 have HTL := hid hst.1
 have hlamf := fun W hkW => (lam_part hn hN hwt hA hB hps hsl hft W hkW (kep hkW)).1
 have hgt := fun t (h : tyIn (shape q.text.toList) qs = some t) => fits_tyIn _ _ hft t h
 have HFT := hid (fun i c p hc hp hk => fit1_wf (fits_get (shape q.text.toList) qs i c p hft hc hp) hk)
 have HI := hid (fun i c W h0 hc => l2Inner_any q b N cap i ByteArray.empty c W h0 (by omega) hc)
 have HBN := hid (fun i W hi h0 ht => l2Binds_any q qs b N n i cap ByteArray.empty W hN hn hi hsl h0 ht)
 have HBC := hid (fun last first => bnd_three q.text.toList (tyIn (shape q.text.toList) qs) qs hsl last first)
 have HTY := hid (fun t (h : q.text.toList = [108, 97, 109]) (h2 : tyIn (shape q.text.toList) qs = some t) => (show t.good ∧ t.isVal = true from ⟨(hgt t h2).1, by have := (hgt t h2).2; rw [h] at this; exact (Option.some.inj this).symm⟩))
 have HBO := hid (fun (first : Option Ty) (hf : ∀ t, first = some t → t.good) W (hkW : Kept w0 W) => l3Bound_any q b N cap ByteArray.empty (tyIn (shape q.text.toList) qs) first hf W (hkW.cell ht0) (by omega) (by omega) (fun h => by
  obtain ⟨x, hx, h2, v1, v2, y1, y2, hL⟩ := hlamf W hkW h
  rw [hx]
  exact ⟨h2, v1, v2, y1, y2, fun W2 hk2 => hL W2 hk2 (kep hk2)⟩))
 have hxl : (xsOf (shape q.text.toList) qs).length ≤ 4 := by have := xsOf_length (shape q.text.toList) qs; omega
 have hwq := wt_pos q
 have hwn : (Tree.node (q :: qs)).wt = 1 + (q.wt + Tree.wts qs) := by rw [Tree.wt, Tree.wts]
 obtain ⟨SF, hSF⟩ : ∃ SF, Tree.node (q :: qs) = SF := ⟨_, rfl⟩
 have hflt : SF.flt env = if (Tree.typ env SF).isSome = true then none else some (Tree.flts SF q.text.toList (tyIn (shape q.text.toList) qs) (xsOf (shape q.text.toList) qs) env none (shape q.text.toList) qs) := by rw [← hSF, Tree.flt]
 rw [hSF] at hself htxt hwn hbn ⊢
 rw [hflt]
 obtain ⟨h, hh⟩ : ∃ h, q.text.toList = h := ⟨_, rfl⟩
 rw [hh] at HFT HI HBN HBC HTY HBO hxl hsl h4 ⊢
 obtain ⟨cs, hcs⟩ : ∃ cs, shape h = cs := ⟨_, rfl⟩
 rw [hcs] at HFT HI HBN HBC HTY HBO hxl hsl h4 ⊢
 obtain ⟨xs, hxs⟩ : ∃ xs, xsOf cs qs = xs := ⟨_, rfl⟩
 rw [hxs] at HBN HBC hxl ⊢
 obtain ⟨ty, hty⟩ : ∃ ty, tyIn cs qs = ty := ⟨_, rfl⟩
 rw [hty] at HBC HTY HBO ⊢
 obtain ⟨R, hR⟩ : ∃ R, Tree.flts SF h ty xs env none cs qs = R := ⟨_, rfl⟩
 rw [hR]
 have HR := hid hR
 have hn4 : n ≤ 4 := by omega
 have hN1 : n < N := by omega
 have hN2 : N ≤ n + 1 := by omega
 have hN5 : N ≤ 5 := by omega
 obtain ⟨W0, hW0⟩ : ∃ W0, W0 = w.alloc (.cells #[.string ByteArray.empty, .slice (some ⟨b, 0, none⟩) N cap] 43) := ⟨_, rfl⟩
 have hW0s : W0.heap.size = w.heap.size + 1 := by rw [hW0]; simp
 have hbx0 := hea w (.cells #[.string ByteArray.empty, .slice (some ⟨b, 0, none⟩) N cap] 43) w.heap.size rfl
 rw [← hW0] at hbx0
 have hkW : Kept w0 W0 := by rw [hW0]; exact hk.alloc hw _
 have HSN0 := hid (show SV W0 np nn nc ns by rw [hW0]; exact hsn.kept ((Kept.refl w).alloc (Nat.le_refl _) _))
 have HST0 := hid (show SV W0 tp nn tc ts by rw [hW0]; exact hst.kept ((Kept.refl w).alloc (Nat.le_refl _) _))
 have HBW := hid (show Below w.heap.size w W0 by rw [hW0]; exact (Below.refl _ _).alloc (Nat.le_refl _) _)
 have HBX := hid hbx0
 have HSL := hid (hsl.trans hn)
 have HNN := hid hn
 have HT0 := hid ht0
 have HTK := hid htk
 have HA := hid hA
 have HB := hid hB
 have HIH := hid ih
 have HKT := hid hkt
 have HFN := hid hfne
 have HTX := hid htxt
 have HK := hid hkW
 have HW0 := hid hW0
 have HWS := hid hW0s
 have HENV := hid henv
 have HNS := hid hns
 have HTS := hid hts
 have HNL := hid hnl
 have hws2 : w.heap.size < W0.heap.size := by omega
 have HSE := hid (hself env ns ts np tp nn nc tc W0 hkW henv hns hts HSN0.out HST0.out hbn)
 have hbn2 : nn + 4 + 4 * Tree.wts qs ≤ 100000 := by omega
 have kc0 := cel hbx0
 obtain ⟨TT, hTT⟩ : ∃ TT, SF.typ env = TT := ⟨_, rfl⟩
 rw [hTT] at HSE ⊢
 have qe := txtO_e8 TT
 clear hn hN hA hB hps hwf ih hk h0 hsl hft h4 ht0 htk hcs hxs hty hR hsn hst hkW hW0 hbx0 hlamf hgt henv hns hts hnl hh hW0s hself hkt hfne htxt hSF hflt hwn hwq hbn hTT
 cases TT with
 | some T0 =>
  obtain ⟨r0, hr0⟩ : ∃ r0, txtO (some T0) = r0 := ⟨_, rfl⟩
  rw [hr0] at HSE qe
  have qe1 : r0.toList.isEmpty = false := qe
  clear qe hr0
  rw [if_pos (show (some T0).isSome = true from rfl)]
  go_enter Tryz.func34, Tryz.ntmps34
  go_wp2_with fail
  rw [← HW0.out]
  go_wp2_with (go_at_call 27; refine HSE.out.mono ?_; rintro e w1 ⟨rfl, hb1⟩)
  go_ret
  exact ⟨rfl, HBW.out.trans (hb1.mono HBW.out.size)⟩
 | none =>
 clear qe
 rw [if_neg (by simp)]
 have HSE2 := hid (show Calls Tryz.prog 27 #[.agg #[.string ByteArray.empty, .slice (some ⟨b, 0, none⟩) N cap], .slice np nn nc, .slice tp nn tc] W0 fun e w' => e = .returned (.string ByteArray.empty) ∧ Below W0.heap.size W0 w' from HSE.out)
 clear HSE
 go_enter Tryz.func34, Tryz.ntmps34
 go_wp2_with fail
 rw [← HW0.out]
 go_wp2_with (go_at_call 27; refine HSE2.out.mono ?_; rintro e w1 ⟨rfl, hb1⟩)
 have HB01 := hid hb1
 clear hb1
 go_loopw [7, 8] (fun v u wr => ∃ (i : Nat) (fo : Option Ty), i ≤ n ∧ u = .int .i64 ((i : Int) + 1) ∧ v = .string (txtO fo) ∧ Below (w.heap.size + 1) W0 wr ∧
     Hid (Tree.flts SF h ty xs env fo (cs.drop i) (qs.drop i) = R ∧ ∀ t, fo = some t → t.good)) (fun _ u _ => N - (intOf u).toNat)
 case atStart =>
  exact ⟨0, none, Nat.zero_le _, by simp, rfl, HB01.out.mono (by have := HWS.out; omega), hid ⟨by simpa using HR.out, fun t ht => by cases ht⟩⟩
 case round =>
  obtain ⟨i, fo, hi, rfl, rfl, hbel, hL⟩ := hrel
  have hz := hbel.size
  have hbxr : wr.heap[w.heap.size]? = some (.cells #[.string ByteArray.empty, .slice (some ⟨b, 0, none⟩) N cap] 43 (0, 0)) := blo HBX.out hbel (by omega)
  have kc2 := cel hbxr
  have kW : Kept W0 wr := fun k hk => by
   have := HWS.out
   exact hbel.block k (by omega)
  have kw : Kept w0 wr := HK.out.trans kW (kep HK.out)
  have HSNR := hid (HSN0.out.kept kW)
  have HSTR := hid (HST0.out.kept kW)
  have HBEL := hid hbel
  have KW := hid kw
  clear hbel hbxr kW
  by_cases hlt : i < n
  ·obtain ⟨p, hp⟩ : ∃ p, qs[i]? = some p := ⟨_, List.getElem?_eq_getElem (by rw [HNN.out]; exact hlt)⟩
   obtain ⟨d, hcc⟩ : ∃ d, cs[i]? = some d := ⟨_, List.getElem?_eq_getElem (by rw [HSL.out]; exact hlt)⟩
   have d2 : (i : Int) + 1 < (N : Int) := by omega
   have d2' : i + 1 < N := by omega
   have d3 : (0 : Int) ≤ (i : Int) + 1 := by omega
   have hst := flts_step HSL.out hcc hp SF h ty xs env fo
   have CI := hid (fun W (hk : Kept wr W) => HI.out i d W (hk.cell (kw.cell HT0.out)) hcc)
   have CB := hid (fun W (hk : Kept wr W) => HBN.out i W hlt (hk.cell (kw.cell HT0.out)) (fun k p hp => hk.cell (kw.cell (HTK.out k p hp))))
   have CA := hid (fun W (hk : Kept wr W) => hk.cell (kw.cell (HA.out (i + 1) (by omega))))
   have CB2 := hid (fun W (hk : Kept wr W) => hk.cell (kw.cell (HB.out (i + 1) (by omega))))
   have kc3 := hid (fun W (hk : Kept wr W) => (show W.cell? ⟨w.heap.size, 0, none⟩ = some (.string ByteArray.empty) ∧ W.cell? ⟨w.heap.size, 1, none⟩ = some (.slice (some ⟨b, 0, none⟩) N cap) from ⟨hk.cell kc2.1, hk.cell kc2.2.1⟩))
   cases hK : d.isK with
   | false =>
    rw [hK] at CI
    have HL2 := hid (show Tree.flts SF h ty xs env fo (cs.drop (i + 1)) (qs.drop (i + 1)) = R ∧ ∀ t, fo = some t → t.good by
     have := hL.out; rw [hst, hK] at this; simpa using this)
    clear hst hL hp hcc kw hK
    go_wp2_with (go_at_call 68; refine (CI.out _ (Kept.refl _)).mono ?_; rintro e w1 ⟨rfl, hb1⟩)
    go_roundw
    case rel => exact ⟨i + 1, fo, by omega, by go_num, rfl, HBEL.out.trans (hb1.mono (by omega)), HL2⟩
    case measure => simp [intOf]; omega
   | true =>
    rw [hK] at CI
    have hwp := HFT.out i d p hcc hp hK
    have hpw : p.wt ≤ Tree.wts qs := wtp qs i p hp
    have hfg : ∀ t, fo = some t → t.good := hL.out.2
    have HBCI := hid (HBC.out (decide (i + 1 = n)) fo)
    have hLe := hL.out.1
    rw [hst, if_pos hK] at hLe
    have CO := hid (fun W (hk : Kept wr W) => HBO.out fo hfg W (kw.trans hk (kep kw)))
    have HCF := hid (HIH.out (i + 1) p (by simpa using hp) hwp)
    have HCT := hid (HKT.out (i + 1) p (by simpa using hp) hwp)
    have HCN := hid (HFN.out (i + 1) p (by simpa using hp))
    have HPG := hid (fun t (ht : p.typ env = some t) => (show t.good from by
     obtain ⟨v, hv⟩ : ∃ v, p.srt = some v := Option.ne_none_iff_exists'.1 hwp
     exact (typ_ok p env v t HENV.out hv ht).1))
    obtain ⟨BS, hBS⟩ : ∃ BS, bndS h ty fo = BS := ⟨_, rfl⟩
    rw [hBS] at CO
    obtain ⟨B, hBB⟩ : ∃ B, bnd (decide (i + 1 = n)) xs = B := ⟨_, rfl⟩
    rw [hBB] at CB HBCI
    have HWT := hid (fun (l1 l2 : List ByteArray) (p1 p2 : Option Addr) n1 n2 c1 c2 W hv1 hv2 hn1 hn2 => l2With_any l1 l2 p1 p2 n1 n2 c1 c2 W hv1 hv2 hn1 hn2)
    have hpb : nn + 4 + 4 * p.wt ≤ 100000 := by omega
    have hBl : B.length ≤ 4 := by rw [← hBB]; unfold bnd; split; exact hxl; simp
    have ca := CA.out wr (Kept.refl _)
    have cb := CB2.out wr (Kept.refl _)
    have HBSE := hid hBS
    have HFG := hid hfg
    have HLE := hid hLe
    obtain ⟨F0, hF⟩ : ∃ F0, txtO fo = F0 := ⟨_, rfl⟩
    have HF0 := hid hF.symm
    have CO2 := hid (fun W (hk : Kept wr W) => (show Calls Tryz.prog 70 #[.agg #[.string ByteArray.empty, .slice (some ⟨b, 0, none⟩) N cap], .string F0] W (OwnS BS W) from by rw [HF0.out]; exact CO.out W hk))
    rw [hF]
    clear CO hst hL hp hcc kw hK hBS hBB hpw hfg hLe hF
    rcases HBCI.out with ⟨hB0, hx0, hb0⟩ | ⟨x0, xr, hB0, hbt, hb0⟩ | ⟨x0, xr, bts, hB0, hbt, hbl, hx0, hb0⟩
    ·skip
     have CB2x := hid (fun W (hk : Kept wr W) => (CB.out W hk).mono fun e w' (h : OwnS B W e w') => (show ∃ q2 c2, e = .returned (.slice q2 0 c2) ∧ SV w' q2 0 c2 [] ∧ Below W.heap.size W w' from by
      rw [hB0] at h; obtain ⟨q2, c2, he, hv, _, hb⟩ := h.full; exact ⟨q2, c2, he, hv, hb⟩))
     obtain ⟨env2, he2⟩ : ∃ env2, enw env [] [] = env2 := ⟨_, rfl⟩
     have HE2 := hid he2
     have HB0 := hid hb0
     have HX0 := hid hx0
     have hee : env = env2 := he2
     have HFA := hid (fun (W : World) (np2 tp2 : Option Addr) (nc2 tc2 : Nat) (hkk : Kept wr W) (hv1 : SV W np2 (nn + 0) nc2 (ns ++ [])) (hv2 : SV W tp2 (nn + 0) tc2 (ts ++ [])) => (show Calls Tryz.prog 34 #[.agg #[.string (A (i + 1)).a, .slice (A (i + 1)).p (A (i + 1)).l (A (i + 1)).c], .slice np2 (nn + 0) nc2, .slice tp2 (nn + 0) tc2] W fun e w' => e = .returned (.string (txtF (p.flt env2))) ∧ Below W.heap.size W w' from by
      rw [← hee]
      exact HCF.out env (ns ++ []) (ts ++ []) np2 tp2 (nn + 0) nc2 tc2 W (KW.out.trans hkk (kep KW.out)) HENV.out (by rw [List.append_nil]; exact HNS.out) (by rw [List.append_nil]; exact HTS.out) hv1 hv2 (by omega)))
     obtain ⟨r, hr⟩ : ∃ r, txtF (p.flt env2) = r := ⟨_, rfl⟩
     rw [hr] at HFA
     have HRR := hid hr
     have CH := hid (fun (q3 : Option Addr) (c3 : Nat) W (hv : SV W q3 0 c3 []) => lha ByteArray.empty [] q3 0 c3 W hv (by omega))
     rw [show hasB [] ByteArray.empty.toList = false from rfl] at CH
     clear hB0 hb0 hx0 he2 hee hr HBCI CB CO2
     go_wp2_with (first
      | (go_at_call 69; have _ := S1; refine (CB2x.out _ K1.out).mono ?_; rintro e w2 ⟨q2, c2, rfl, hsv2, hb2⟩; have K2 := hid (K1.out.below hb2 S1.out); have S2 := hid (Nat.le_trans S1.out hb2.size); have HB2 := hid (HB1.out.trans (hb2.mono S1.out)); have k2 := kc3.out _ K2.out; have V2 := hid hsv2; clear hsv2 hb2)
      | (go_at_call 68; refine (CI.out _ (Kept.refl _)).mono ?_; rintro e w1 ⟨rfl, hb1⟩; have K1 := hid (Kept.of_below hb1 (Nat.le_refl _)); have HB1 := hid hb1; have S1 := hid hb1.size; have k1 := kc3.out _ K1.out; clear hb1))
     have hb35 : Below w2.heap.size w2 (w2.alloc (.cells #[] 9)) := (Below.refl _ _).alloc (Nat.le_refl _) _
     have VS := hid (show SV (w2.alloc (.cells #[] 9)) (some ⟨w2.heap.size, 0, none⟩) 0 0 [] from ⟨rfl, fun h => (by cases h), fun i s h => (by simp at h)⟩)
     have hz2 := S2.out
     obtain ⟨w5, hw5⟩ : ∃ w5, w2.alloc (.cells #[] 9) = w5 := ⟨_, rfl⟩
     rw [hw5] at hb35 VS ⊢
     clear hw5
     have K5 := hid (K2.out.below hb35 S2.out)
     have S5 := hid (Nat.le_trans S2.out hb35.size)
     have HB5 := hid (HB2.out.trans (hb35.mono S2.out))
     have VB := hid (V2.out.kept (Kept.of_below hb35 (Nat.le_refl _)))
     generalize w2.heap.size = gs at VS ⊢
     clear hb35 K2 S2 HB2 V2
     have k5 := kc3.out _ K5.out
     have ca5 := CA.out _ K5.out
     have cb5 := CB2.out _ K5.out
     go_wp2_with (go_at_call 61; refine (CH.out _ _ _ VS.out).mono ?_; rintro e w4 ⟨rfl, rfl⟩)
     have k6 := kc3.out w5.drew (K5.out.below ((Below.refl _ _).drew) S5.out)
     have HD5 := hid (HB5.out.trans (((Below.refl w5.heap.size w5).drew).mono S5.out))
     have VN := hid ((HSNR.out.kept (K5.out)).kept (Kept.of_below ((Below.refl w5.heap.size w5).drew) (Nat.le_refl _)))
     have VT := hid ((HSTR.out.kept (K5.out)).kept (Kept.of_below ((Below.refl w5.heap.size w5).drew) (Nat.le_refl _)))
     have VBD := hid (VB.out.kept (Kept.of_below ((Below.refl w5.heap.size w5).drew) (Nat.le_refl _)))
     have VSD := hid (VS.out.kept (Kept.of_below ((Below.refl w5.heap.size w5).drew) (Nat.le_refl _)))
     clear VB VS
     go_region_law (first
      | (go_simp; (go_at_call 34; have _ := HB7; refine (HFA.out _ _ _ _ _ K7.out VN7.out VT7.out).mono ?_; rintro e w8 ⟨rfl, hb8⟩; have K8 := hid (K7.out.below hb8 S7.out); have S8 := hid (Nat.le_trans S7.out hb8.size); have HB8 := hid (HB7.out.trans (hb8.mono S7.out)); have k8 := kc3.out _ K8.out; have ca8 := CA.out _ K8.out; have cb8 := CB2.out _ K8.out; clear hb8))
      | (go_simp; (go_at_call 72; have _ := HB6; refine (HWT.out _ _ _ _ _ _ _ _ _ VT6.out VS6.out (by omega) (by omega)).mono ?_; rintro e w7 hp7; obtain ⟨q7, c7, he7, hsv7, hlt7, hb7⟩ := hp7.full; rw [show (ts ++ ([] : List ByteArray)).length = nn + 0 by rw [List.length_append, HTL.out, List.length_nil]] at he7 hsv7; subst he7; have K7 := hid (K6.out.below hb7 S6.out); have S7 := hid (Nat.le_trans S6.out hb7.size); have HB7 := hid (HB6.out.trans (hb7.mono S6.out)); have k7 := kc3.out _ K7.out; have ca7 := CA.out _ K7.out; have cb7 := CB2.out _ K7.out; have VN7 := hid (VN6.out.kept (Kept.of_below hb7 (Nat.le_refl _))); have VT7 := hid hsv7; clear hb7 hsv7 hp7 hlt7))
      | (go_simp; (go_at_call 72; refine (HWT.out _ _ _ _ _ _ _ _ _ VN.out VBD.out (by omega) (by omega)).mono ?_; rintro e w6 hp6; obtain ⟨q6, c6, he6, hsv6, hlt6, hb6⟩ := hp6.full; rw [show (ns ++ ([] : List ByteArray)).length = nn + 0 by rw [List.length_append, HNL.out, List.length_nil]] at he6 hsv6; subst he6; have K6 := hid ((Kept.of_below HD5.out (Nat.le_refl _)).below hb6 HD5.out.size); have S6 := hid (Nat.le_trans HD5.out.size hb6.size); have HB6 := hid (HD5.out.trans (hb6.mono HD5.out.size)); have kk6 := kc3.out _ K6.out; have ca6 := CA.out _ K6.out; have cb6 := CB2.out _ K6.out; have VN6 := hid hsv6; have VT6 := hid (VT.out.kept (Kept.of_below hb6 (Nat.le_refl _))); have VS6 := hid (VSD.out.kept (Kept.of_below hb6 (Nat.le_refl _))); clear hb6 hsv6 hp6 hlt6)))
     all_goals
      have VN8 := hid (HSNR.out.kept K8.out)
      have VT8 := hid (HSTR.out.kept K8.out)
      rcases hft : p.flt env2 with _ | f
      ·have er : r = ByteArray.empty := by rw [← HRR.out, hft]; rfl
       subst er
       have HLE2 := hid (show Tree.flts SF h ty xs env (if fo.isSome = true then fo else Tree.typ env p) (cs.drop (i + 1)) (qs.drop (i + 1)) = R by
        have := HLE.out; rw [HB0.out] at this; simp only at this; rw [HX0.out, HE2.out, hft] at this; exact this)
       rcases fo with _ | t0
       ·have eF : F0 = ByteArray.empty := HF0.out
        subst eF
        have HLN := hid (show Tree.flts SF h ty xs env (p.typ env) (cs.drop (i + 1)) (qs.drop (i + 1)) = R ∧ ∀ t, p.typ env = some t → t.good from ⟨HLE2.out, HPG.out⟩)
        have HC8 := hid (HCT.out env ns ts np tp nn nc tc w8 (KW.out.trans K8.out (kep KW.out)) HENV.out HNS.out HTS.out VN8.out VT8.out (by omega))
        clear hft
        go_wp2_with (go_at_call 27; refine HC8.out.mono ?_; rintro e w9 ⟨rfl, hb9⟩)
        go_roundw
        case rel => exact ⟨i + 1, p.typ env, by omega, by go_num, rfl, HBEL.out.trans ((HB8.out.trans (hb9.mono HB8.out.size)).mono (by omega)), HLN⟩
        case measure => simp [intOf]; omega
       ·have HLN := hid (show Tree.flts SF h ty xs env (some t0) (cs.drop (i + 1)) (qs.drop (i + 1)) = R ∧ ∀ t, some t0 = some t → t.good from ⟨HLE2.out, HFG.out⟩)
        have qF : F0.toList.isEmpty = false := by rw [HF0.out]; exact txtO_e8 (some t0)
        clear hft
        go_wp2_with fail
        go_roundw
        case rel => exact ⟨i + 1, some t0, by omega, by go_num, by rw [HF0.out], HBEL.out.trans (HB8.out.mono (by omega)), HLN⟩
        case measure => simp [intOf]; omega
      ·have HN := hid (HCN.out env2 f hft)
       have er : r = f.txt := by rw [← HRR.out, hft]; rfl
       have hR : R = f := by
        have := HLE.out; rw [HB0.out] at this; simp only at this; rw [HX0.out, HE2.out, hft] at this; exact this.symm
       have qr : r.toList.isEmpty = false := by
        rw [er]; cases hx : f.txt.toList with
        | nil => exact absurd hx HN.out
        | cons => rfl
       have HER := hid er
       have HRF := hid hR
       clear hft er hR
       go_wp2_with fail
       go_ret
       rw [HRF.out, HER.out]
       exact ⟨rfl, HBW.out.trans ((HBEL.out.trans (HB8.out.mono (by omega))).mono (by omega))⟩
    ·skip
     obtain ⟨kB, hkB⟩ : ∃ kB, B.length = kB := ⟨_, rfl⟩
     have hkB0 : 0 < kB := by rw [← hkB, hB0]; simp
     have hkB4 : kB ≤ 4 := by omega
     have CB2x := hid (fun W (hk : Kept wr W) => (CB.out W hk).mono fun e w' (h : OwnS B W e w') => (show ∃ q2 c2, e = .returned (.slice q2 kB c2) ∧ SV w' q2 kB c2 B ∧ Below W.heap.size W w' from by
      obtain ⟨q2, c2, he, hv, _, hb⟩ := h.full; rw [hkB] at he hv; exact ⟨q2, c2, he, hv, hb⟩))
     obtain ⟨kS, hkS⟩ : ∃ kS, BS.length = kS := ⟨_, rfl⟩
     have CO3 := hid (fun W (hk : Kept wr W) => (CO2.out W hk).mono fun e w' (h : OwnS BS W e w') => (show ∃ q3 c3, e = .returned (.slice q3 kS c3) ∧ SV w' q3 kS c3 BS ∧ Below W.heap.size W w' from by
      obtain ⟨q3, c3, he, hv, _, hb⟩ := h.full; rw [hkS] at he hv; exact ⟨q3, c3, he, hv, hb⟩))
     have hkS2 : kS ≤ 100 := by rw [← hkS, ← HBSE.out]; unfold bndS; repeat' (first | split | simp)
     have hHas : hasB BS ByteArray.empty.toList = true := by rw [← HBSE.out, show ByteArray.empty.toList = [] by rw [Go.ByteArray.toList_eq]; rfl]; exact bndS_none hbt
     have CH := hid (fun (q3 : Option Addr) (c3 : Nat) W (hv : SV W q3 kS c3 BS) => lha ByteArray.empty BS q3 kS c3 W hv (by omega))
     rw [hHas] at CH
     have HRS := hid (show R = SF by have := HLE.out; rw [hb0] at this; exact this.symm)
     clear hB0 hbt hb0 hkB hkS hHas HBCI CB CO2
     go_wp2_with (first
      | (go_at_call 71; have _ := V3; refine (HTX.out _ (KW.out.trans K3.out (kep KW.out))).mono ?_; rintro e w9 ⟨rfl, hb9⟩)
      | (go_at_call 61; refine (CH.out _ _ _ V3.out).mono ?_; rintro e w4 ⟨rfl, rfl⟩)
      | (go_at_call 70; have _ := S5; refine (CO3.out _ K5.out).mono ?_; rintro e w3 ⟨q3, c3, rfl, hsv3, hb3⟩; have K3 := hid (K5.out.below hb3 S5.out); have S3 := hid (Nat.le_trans S5.out hb3.size); have HB3 := hid (HB5.out.trans (hb3.mono S5.out)); have k3 := kc3.out _ K3.out; have ca3 := CA.out _ K3.out; have cb3 := CB2.out _ K3.out; have V23 := hid (VB.out.kept (Kept.of_below hb3 (Nat.le_refl _))); have V3 := hid hsv3; clear hsv3 hb3)
      | (go_at_call 69; have _ := S1; refine (CB2x.out _ K1.out).mono ?_; rintro e w2 ⟨q2, c2, rfl, hsv2, hb2⟩; have hb25 := hb2.alloc hb2.size (.cells #[] 9); have K5 := hid (K1.out.below hb25 S1.out); have S5 := hid (Nat.le_trans S1.out hb25.size); have HB5 := hid (HB1.out.trans (hb25.mono S1.out)); have k5 := kc3.out _ K5.out; have VB := hid (hsv2.kept ((Kept.refl w2).alloc (Nat.le_refl _) (.cells #[] 9))); clear hsv2 hb2 hb25)
      | (go_at_call 68; refine (CI.out _ (Kept.refl _)).mono ?_; rintro e w1 ⟨rfl, hb1⟩; have K1 := hid (Kept.of_below hb1 (Nat.le_refl _)); have HB1 := hid hb1; have S1 := hid hb1.size; have k1 := kc3.out _ K1.out; clear hb1))
     go_ret
     rw [HRS.out]
     exact ⟨rfl, HBW.out.trans ((HBEL.out.trans ((HB3.out.trans (hb9.mono HB3.out.size)).mono (by omega))).mono (by omega))⟩
    ·skip
     obtain ⟨kB, hkB⟩ : ∃ kB, B.length = kB := ⟨_, rfl⟩
     have hkB0 : 0 < kB := by rw [← hkB, hB0]; simp
     have hkB4 : kB ≤ 4 := by omega
     have CB2x := hid (fun W (hk : Kept wr W) => (CB.out W hk).mono fun e w' (h : OwnS B W e w') => (show ∃ q2 c2, e = .returned (.slice q2 kB c2) ∧ SV w' q2 kB c2 B ∧ Below W.heap.size W w' from by
      obtain ⟨q2, c2, he, hv, _, hb⟩ := h.full; rw [hkB] at he hv; exact ⟨q2, c2, he, hv, hb⟩))
     obtain ⟨kS, hkS⟩ : ∃ kS, BS.length = kS := ⟨_, rfl⟩
     have CO3 := hid (fun W (hk : Kept wr W) => (CO2.out W hk).mono fun e w' (h : OwnS BS W e w') => (show ∃ q3 c3, e = .returned (.slice q3 kS c3) ∧ SV w' q3 kS c3 BS ∧ Below W.heap.size W w' from by
      obtain ⟨q3, c3, he, hv, _, hb⟩ := h.full; rw [hkS] at he hv; exact ⟨q3, c3, he, hv, hb⟩))
     have hkS2 : kS ≤ 100 := by rw [← hkS, ← HBSE.out]; unfold bndS; repeat' (first | split | simp)
     have HKB3 := hid hkB
     have hbts : BS = bts.map Ty.text := by rw [← HBSE.out]; exact (bndS_some hbt).1
     have hHas : hasB BS ByteArray.empty.toList = false := by rw [← HBSE.out, show ByteArray.empty.toList = [] by rw [Go.ByteArray.toList_eq]; rfl]; exact (bndS_some hbt).2
     have hlen : kS = kB := by rw [← hkS, ← hkB, hbts, List.length_map, hbl, hB0]
     obtain rfl := hlen
     have HKS3 := hid hkS
     have CH := hid (fun (q3 : Option Addr) (c3 : Nat) W (hv : SV W q3 kS c3 BS) => lha ByteArray.empty BS q3 kS c3 W hv (by omega))
     rw [hHas] at CH
     have hrev := envWith_rev env B bts (by rw [hbl, hB0])
     obtain ⟨env2, he2⟩ : ∃ env2, enw env (x0 :: xr) bts = env2 := ⟨_, rfl⟩
     have HE2 := hid he2
     have HB0 := hid hb0
     have HX0 := hid hx0
     have HFA := hid (fun (W : World) (np2 tp2 : Option Addr) (nc2 tc2 : Nat) (hkk : Kept wr W) (hv1 : SV W np2 (nn + kS) nc2 (ns ++ B)) (hv2 : SV W tp2 (nn + kS) tc2 (ts ++ BS)) => (show Calls Tryz.prog 34 #[.agg #[.string (A (i + 1)).a, .slice (A (i + 1)).p (A (i + 1)).l (A (i + 1)).c], .slice np2 (nn + kS) nc2, .slice tp2 (nn + kS) tc2] W fun e w' => e = .returned (.string (txtF (p.flt env2))) ∧ Below W.heap.size W w' from by
      rw [← he2, ← hB0]
      exact HCF.out (enw env B bts) (ns ++ B) (ts ++ BS) np2 tp2 (nn + kS) nc2 tc2 W (KW.out.trans hkk (kep KW.out)) (envWith_ok HENV.out _ _ (bndT_ok hbt HFG.out HTY.out)) (by rw [hrev.1, ← HNS.out]) (by rw [hrev.2.1, ← HTS.out, hbts]) hv1 hv2 (by omega)))
     clear hbts hHas hrev
     obtain ⟨r, hr⟩ : ∃ r, txtF (p.flt env2) = r := ⟨_, rfl⟩
     rw [hr] at HFA
     have HRR := hid hr
     clear hB0 hb0 hx0 he2 hr HBCI CB CO2 hbt hbl hkB hkS
     go_wp2_with (first
      | (go_at_call 61; refine (CH.out _ _ _ V3.out).mono ?_; rintro e w4 ⟨rfl, rfl⟩)
      | (go_at_call 70; have _ := S5; refine (CO3.out _ K5.out).mono ?_; rintro e w3 ⟨q3, c3, rfl, hsv3, hb3⟩; have K3 := hid (K5.out.below hb3 S5.out); have S3 := hid (Nat.le_trans S5.out hb3.size); have HB3 := hid (HB5.out.trans (hb3.mono S5.out)); have k3 := kc3.out _ K3.out; have ca3 := CA.out _ K3.out; have cb3 := CB2.out _ K3.out; have V23 := hid (VB.out.kept (Kept.of_below hb3 (Nat.le_refl _))); have V3 := hid hsv3; clear hsv3 hb3)
      | (go_at_call 69; have _ := S1; refine (CB2x.out _ K1.out).mono ?_; rintro e w2 ⟨q2, c2, rfl, hsv2, hb2⟩; have hb25 := hb2.alloc hb2.size (.cells #[] 9); have K5 := hid (K1.out.below hb25 S1.out); have S5 := hid (Nat.le_trans S1.out hb25.size); have HB5 := hid (HB1.out.trans (hb25.mono S1.out)); have k5 := kc3.out _ K5.out; have VB := hid (hsv2.kept ((Kept.refl w2).alloc (Nat.le_refl _) (.cells #[] 9))); clear hsv2 hb2 hb25)
      | (go_at_call 68; refine (CI.out _ (Kept.refl _)).mono ?_; rintro e w1 ⟨rfl, hb1⟩; have K1 := hid (Kept.of_below hb1 (Nat.le_refl _)); have HB1 := hid hb1; have S1 := hid hb1.size; have k1 := kc3.out _ K1.out; clear hb1))
     have VS := V3
     have VB := V23
     have k6 := kc3.out w3.drew (K3.out.below ((Below.refl _ _).drew) S3.out)
     have HD5 := hid (HB3.out.trans (((Below.refl w3.heap.size w3).drew).mono S3.out))
     have VN := hid ((HSNR.out.kept (K3.out)).kept (Kept.of_below ((Below.refl w3.heap.size w3).drew) (Nat.le_refl _)))
     have VT := hid ((HSTR.out.kept (K3.out)).kept (Kept.of_below ((Below.refl w3.heap.size w3).drew) (Nat.le_refl _)))
     have VBD := hid (VB.out.kept (Kept.of_below ((Below.refl w3.heap.size w3).drew) (Nat.le_refl _)))
     have VSD := hid (VS.out.kept (Kept.of_below ((Below.refl w3.heap.size w3).drew) (Nat.le_refl _)))
     clear VB VS
     go_region_law (first
      | (go_simp; (go_at_call 34; have _ := HB7; refine (HFA.out _ _ _ _ _ K7.out VN7.out VT7.out).mono ?_; rintro e w8 ⟨rfl, hb8⟩; have K8 := hid (K7.out.below hb8 S7.out); have S8 := hid (Nat.le_trans S7.out hb8.size); have HB8 := hid (HB7.out.trans (hb8.mono S7.out)); have k8 := kc3.out _ K8.out; have ca8 := CA.out _ K8.out; have cb8 := CB2.out _ K8.out; clear hb8))
      | (go_simp; (go_at_call 72; have _ := HB6; refine (HWT.out _ _ _ _ _ _ _ _ _ VT6.out VS6.out (by omega) (by omega)).mono ?_; rintro e w7 hp7; obtain ⟨q7, c7, he7, hsv7, hlt7, hb7⟩ := hp7.full; rw [show (ts ++ BS).length = nn + kS by rw [List.length_append, HTL.out, HKS3.out]] at he7 hsv7; subst he7; have K7 := hid (K6.out.below hb7 S6.out); have S7 := hid (Nat.le_trans S6.out hb7.size); have HB7 := hid (HB6.out.trans (hb7.mono S6.out)); have k7 := kc3.out _ K7.out; have ca7 := CA.out _ K7.out; have cb7 := CB2.out _ K7.out; have VN7 := hid (VN6.out.kept (Kept.of_below hb7 (Nat.le_refl _))); have VT7 := hid hsv7; clear hb7 hsv7 hp7 hlt7))
      | (go_simp; (go_at_call 72; refine (HWT.out _ _ _ _ _ _ _ _ _ VN.out VBD.out (by omega) (by omega)).mono ?_; rintro e w6 hp6; obtain ⟨q6, c6, he6, hsv6, hlt6, hb6⟩ := hp6.full; rw [show (ns ++ B).length = nn + kS by rw [List.length_append, HNL.out, HKB3.out]] at he6 hsv6; subst he6; have K6 := hid ((Kept.of_below HD5.out (Nat.le_refl _)).below hb6 HD5.out.size); have S6 := hid (Nat.le_trans HD5.out.size hb6.size); have HB6 := hid (HD5.out.trans (hb6.mono HD5.out.size)); have kk6 := kc3.out _ K6.out; have ca6 := CA.out _ K6.out; have cb6 := CB2.out _ K6.out; have VN6 := hid hsv6; have VT6 := hid (VT.out.kept (Kept.of_below hb6 (Nat.le_refl _))); have VS6 := hid (VSD.out.kept (Kept.of_below hb6 (Nat.le_refl _))); clear hb6 hsv6 hp6 hlt6)))
     all_goals
      have VN8 := hid (HSNR.out.kept K8.out)
      have VT8 := hid (HSTR.out.kept K8.out)
      rcases hft : p.flt env2 with _ | f
      ·have er : r = ByteArray.empty := by rw [← HRR.out, hft]; rfl
       subst er
       have HLE2 := hid (show Tree.flts SF h ty xs env (if fo.isSome = true then fo else Tree.typ env p) (cs.drop (i + 1)) (qs.drop (i + 1)) = R by
        have := HLE.out; rw [HB0.out] at this; simp only at this; rw [HX0.out, HE2.out, hft] at this; exact this)
       rcases fo with _ | t0
       ·have eF : F0 = ByteArray.empty := HF0.out
        subst eF
        have HLN := hid (show Tree.flts SF h ty xs env (p.typ env) (cs.drop (i + 1)) (qs.drop (i + 1)) = R ∧ ∀ t, p.typ env = some t → t.good from ⟨HLE2.out, HPG.out⟩)
        have HC8 := hid (HCT.out env ns ts np tp nn nc tc w8 (KW.out.trans K8.out (kep KW.out)) HENV.out HNS.out HTS.out VN8.out VT8.out (by omega))
        clear hft
        go_wp2_with (go_at_call 27; refine HC8.out.mono ?_; rintro e w9 ⟨rfl, hb9⟩)
        go_roundw
        case rel => exact ⟨i + 1, p.typ env, by omega, by go_num, rfl, HBEL.out.trans ((HB8.out.trans (hb9.mono HB8.out.size)).mono (by omega)), HLN⟩
        case measure => simp [intOf]; omega
       ·have HLN := hid (show Tree.flts SF h ty xs env (some t0) (cs.drop (i + 1)) (qs.drop (i + 1)) = R ∧ ∀ t, some t0 = some t → t.good from ⟨HLE2.out, HFG.out⟩)
        have qF : F0.toList.isEmpty = false := by rw [HF0.out]; exact txtO_e8 (some t0)
        clear hft
        go_wp2_with fail
        go_roundw
        case rel => exact ⟨i + 1, some t0, by omega, by go_num, by rw [HF0.out], HBEL.out.trans (HB8.out.mono (by omega)), HLN⟩
        case measure => simp [intOf]; omega
      ·have HN := hid (HCN.out env2 f hft)
       have er : r = f.txt := by rw [← HRR.out, hft]; rfl
       have hR : R = f := by
        have := HLE.out; rw [HB0.out] at this; simp only at this; rw [HX0.out, HE2.out, hft] at this; exact this.symm
       have qr : r.toList.isEmpty = false := by
        rw [er]; cases hx : f.txt.toList with
        | nil => exact absurd hx HN.out
        | cons => rfl
       have HER := hid er
       have HRF := hid hR
       clear hft er hR
       go_wp2_with fail
       go_ret
       rw [HRF.out, HER.out]
       exact ⟨rfl, HBW.out.trans ((HBEL.out.trans (HB8.out.mono (by omega))).mono (by omega))⟩
  ·have he : R = SF := by
     have := hL.out.1
     rw [List.drop_of_length_le (l := cs) (by rw [HSL.out]; omega)] at this
     rw [← this, Tree.flts]
   have HE := hid he
   have HTR := hid (HTX.out wr kw)
   clear he hL kw
   go_wp2_with (go_at_call 71; refine HTR.out.mono ?_; rintro e w9 ⟨rfl, hb9⟩)
   go_ret
   rw [HE.out]
   exact ⟨rfl, HBW.out.trans ((HBEL.out.mono (by omega)).trans (hb9.mono (by omega)))⟩
end Go.Proofs.YtfogjomebcponaaGreatDoor
