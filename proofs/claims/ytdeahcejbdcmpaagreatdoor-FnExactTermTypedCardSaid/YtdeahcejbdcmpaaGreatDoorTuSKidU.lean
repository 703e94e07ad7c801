/- Merged: KidU. -/
import Derived.Test.YtdeahcejbdcmpaaGreatDoorTuSKidT
import Derived.Test.YtdeahcejbdcmpaaGreatDoorTu20
namespace Go.Proofs.YtdeahcejbdcmpaaGreatDoor
open Go.RowKit

theorem hasB_txt (l : List (Option Ty)) : hasB (l.map txtO) [] = !(l.all Option.isSome) := by
  cases hq : l.all Option.isSome with
  | true =>
    cases hh : hasB (l.map txtO) [] with
    | false => rfl
    | true =>
      obtain ⟨x, hx, hn⟩ := (hasB_nil _).1 hh
      obtain ⟨o, ho, rfl⟩ := List.mem_map.1 hx
      rw [(txtO_nil o).1 hn] at ho
      have := List.all_eq_true.1 hq none ho
      simp at this
  | false =>
    obtain ⟨o, ho, hn⟩ := List.all_eq_false.1 hq
    refine (hasB_nil _).2 ⟨txtO o, List.mem_map.2 ⟨o, ho, rfl⟩, (txtO_nil o).2 ?_⟩
    cases o with
    | none => rfl
    | some t => simp at hn
theorem vals_sv {w : World} {p : Option Addr} {n c : Nat} {l : List ByteArray} (h : SV w p n c l) : Vals w p (l.map Value.string) := fun i v hi => by
  rw [List.getElem?_map] at hi
  cases hx : l[i]? with
  | none => rw [hx] at hi; simp at hi
  | some x =>
    rw [hx] at hi; simp at hi; subst hi
    obtain ⟨g, rfl, hc⟩ := h.2.2 i x hx
    exact ⟨g, 0, rfl, by rw [Nat.zero_add]; exact hc⟩
theorem all_map {l : List (Option Ty)} (h : l.all Option.isSome = true) : ∃ ks : List Ty, l = ks.map some := by
  induction l with
  | nil => exact ⟨[], rfl⟩
  | cons o l ih =>
    simp only [List.all_cons, Bool.and_eq_true] at h
    obtain ⟨ks, rfl⟩ := ih h.2
    cases o with
    | none => simp at h
    | some t => exact ⟨t :: ks, rfl⟩

set_option maxRecDepth 100000 in
set_option maxHeartbeats 2000000 in
theorem typ_atom (w0 : World) (a : ByteArray) (hne : a.size ≠ 0) (hm : a.size ≤ 400000000) : TypAsk w0 (.atom a) ⟨a, none, 0, 0⟩ := by
  intro env ns ts np tp nn nc tc w hk henv hns hts hsn hst hb
  have he := isEmpty_not a hne
  have HN := hid (fun W => l2Name_any a hm W)
  have k1 : Kept w (w.alloc (.cells #[.string a, .slice none 0 0] 58)) := (Kept.refl w).alloc (Nat.le_refl _) _
  have hl : ns.length = nn := hsn.1
  have hl2 : ts.length = nn := hst.1
  have hv1 := hid (vals_sv (hsn.kept k1))
  have hv2 := hid (vals_sv (hst.kept k1))
  have HL := hid (l3Look_any a ns ts np tp nn nc tc (w.alloc (.cells #[.string a, .slice none 0 0] 58)) hl hl2 (by omega) hv1.out hv2.out)
  have hlk : l3 a.toList ns ts nn = txtO (lookR a.toList env) := by
    have := l3_look a.toList env.reverse
    rw [List.reverse_reverse] at this
    rw [hns, hts, ← this]
    congr 1
    rw [← hl, hns, List.length_map]
  rw [hlk] at HL
  have HB1 := hid (show Below w.heap.size w (w.alloc (.cells #[.string a, .slice none 0 0] 58)) from (Below.refl _ _).alloc (Nat.le_refl _) _)
  cases e2 : nameB a.toList with
  | true =>
    rw [e2] at HN
    have hty : (Tree.atom a).typ env = lookR a.toList env := by rw [Tree.typ, if_pos e2, limT_look henv]
    rw [hty]
    clear hsn hst hv1 hv2 hlk hk hb e2 hty hns hts hl hl2 k1 henv
    go_enter Tryz.func44, Tryz.ntmps44
    go_wp2_with (first | (go_at_call 91; refine (HN.out _).mono ?_; rintro e w1 ⟨rfl, rfl⟩) | (go_at_call 93; refine HL.out.mono ?_; rintro e w2 ⟨rfl, rfl⟩))
    go_ret
    exact ⟨rfl, HB1.out⟩
  | false =>
    rw [e2] at HN
    have hty : (Tree.atom a).typ env = some .bit := by rw [Tree.typ, if_neg (by rw [e2]; simp)]
    rw [hty]
    clear hsn hst hv1 hv2 hlk hk hb e2 hty hns hts hl hl2 k1 HL henv
    go_enter Tryz.func44, Tryz.ntmps44
    go_wp2_with (go_at_call 91; refine (HN.out _).mono ?_; rintro e w1 ⟨rfl, rfl⟩)
    go_ret
    exact ⟨rfl, HB1.out⟩

set_option maxRecDepth 100000 in
set_option maxHeartbeats 4000000 in
theorem typ_node {w0 : World} {S : Nat → Prop} {q : Tree} {qs : List Tree} {b cap n N : Nat} {A : Nat → Hd} (hn : qs.length = n) (hN : N = n + 1) (hwt : Tree.wts qs ≤ 12000)
    (hA : ∀ i, i < n + 1 → w0.cell? ⟨b, i * 2, none⟩ = some (.string (A i).a)) (hB : ∀ i, i < n + 1 → w0.cell? ⟨b, i * 2 + 1, none⟩ = some (.slice (A i).p (A i).l (A i).c))
    (hps : ∀ i p, (q :: qs)[i]? = some p → TIn w0 S p (A i)) (hwf : Tree.srt (.node (q :: qs)) ≠ none)
    (ih : ∀ i p, (q :: qs)[i]? = some p → p.srt ≠ none → TypAsk w0 p (A i)) : TypAsk w0 (.node (q :: qs)) ⟨ByteArray.empty, some ⟨b, 0, none⟩, N, cap⟩ := by
  intro env ns ts np tp nn nc tc w hk henv hns hts hsn hst hbn
  obtain ⟨h0, hsl, hft⟩ := wf_node hwf
  obtain ⟨ht0, htk⟩ := part_texts hn hA hps
  rw [Tree.wt, Tree.wts] at hbn
  have hq1 := wt_pos q
  have hw := kept_size hk
  obtain ⟨W0, hW0⟩ : ∃ W0, w.alloc (.cells #[.string ByteArray.empty, .slice (some ⟨b, 0, none⟩) N cap] 58) = W0 := ⟨_, rfl⟩
  have k0 : Kept w W0 := by rw [← hW0]; exact (Kept.refl w).alloc (Nat.le_refl _) _
  have hk0 : Kept w0 W0 := hk.trans k0 hw
  have HB0 := hid (show Below w.heap.size w W0 by rw [← hW0]; exact (Below.refl _ _).alloc (Nat.le_refl _) _)
  have hbx := heap_new w (.cells #[.string ByteArray.empty, .slice (some ⟨b, 0, none⟩) N cap] 58) w.heap.size rfl
  rw [hW0] at hbx
  have HKK := hid (l3Kids_go (cap := cap) hn hN hwt hA hB hps hwf ih env ns ts np tp nn nc tc W0 hk0 henv hns hts (hsn.kept k0) (hst.kept k0) (by omega))
  obtain ⟨R, hR⟩ : ∃ R, Tree.kts q.text.toList (tyIn (shape q.text.toList) qs) (xsOf (shape q.text.toList) qs) env [] (shape q.text.toList) qs = R := ⟨_, rfl⟩
  have hlen := kts_len q.text.toList (tyIn (shape q.text.toList) qs) (xsOf (shape q.text.toList) qs) env (shape q.text.toList) qs [] hsl
  have hgt := fun t (h : tyIn (shape q.text.toList) qs = some t) => fits_tyIn _ _ hft t h
  have hkok := kts_ok q.text.toList (tyIn (shape q.text.toList) qs) (xsOf (shape q.text.toList) qs) env henv (fun t hl h => ⟨(hgt t h).1, by have := (hgt t h).2; rw [hl] at this; exact (Option.some.inj this).symm⟩) (shape q.text.toList) qs [] [] (fun p hp env v t h1 h2 h3 => typ_ok p env v t h1 h2 h3) hft (fun i t h => by simp at h) rfl
  have hty : (Tree.node (q :: qs)).typ env = if R.all Option.isSome = true then limT (joinT q.text.toList (tyIn (shape q.text.toList) qs) [] env R[0]?.join R[1]?.join R[2]?.join) else none := by
    rw [Tree.typ, hR]
  rw [hR] at HKK hlen hkok
  rw [hty]
  have hll := fun W hkW => lam_part hn hN hwt hA hB hps hsl hft W hkW (kept_size hkW)
  have HS := hid (show ∀ (W : World) (p3 : Option Addr) (n3 c3 : Nat), SV W p3 n3 c3 (R.map txtO) → Calls Tryz.prog 95 #[.slice p3 n3 c3, .string ByteArray.empty] W fun e w' => e = .returned (.bool (!(R.all Option.isSome))) ∧ W = w' from fun W p3 n3 c3 hv => by
    have h1 : (R.map txtO).length = n3 := hv.1
    have h4 := shape_four q.text.toList
    have h5 : (shape q.text.toList).countP Sg.isK ≤ (shape q.text.toList).length := List.countP_le_length
    have := l2Has_any ByteArray.empty (R.map txtO) p3 n3 c3 W hv (by rw [List.length_map] at h1; simp at hlen; omega)
    rw [show ByteArray.empty.toList = [] by rw [Go.ByteArray.toList_eq]; rfl, hasB_txt] at this
    exact this)
  have HK2 := hid (show Calls Tryz.prog 94 #[.agg #[.string ByteArray.empty, .slice (some ⟨b, 0, none⟩) N cap], .slice np nn nc, .slice tp nn tc] W0 fun e w' => ∃ q3 n3 c3, e = .returned (.slice q3 n3 c3) ∧ SV w' q3 n3 c3 (R.map txtO) ∧ Below W0.heap.size W0 w' from HKK.out.mono fun e w' h => by
    obtain ⟨q3, c3, he, hv, _, hb⟩ := h.full
    exact ⟨q3, _, c3, he, hv, hb⟩)
  have HT0 := hid ht0
  have KC := hid (fun W (hb : Below W0.heap.size W0 W) => cells_of_pair (block_below hbx hb (by have := HB0.out.size; have := lt_of_block hbx; omega)))
  have kc0 := KC.out W0 (Below.refl _ _)
  have HW0 := hid hW0
  cases hall : R.all Option.isSome with
  | false =>
    rw [hall] at HS
    rw [if_neg (by simp)]
    clear hty hlen hkok hR HKK hll hn hN hA hB hps hwf ih hsn hst hns hts hbn h0 hsl hft ht0 htk hgt henv hbx hall k0 hk0 hk hW0
    go_enter Tryz.func44, Tryz.ntmps44
    go_wp2_with fail
    rw [HW0.out]
    go_wp2_with (first
      | (go_at_call 95; refine (HS.out _ _ _ _ V1.out).mono ?_; rintro e w2 ⟨rfl, rfl⟩)
      | (go_at_call 94; refine HK2.out.mono ?_; rintro e w1 ⟨q3, n3, c3, rfl, hv1, hb1⟩; have V1 := hid hv1; have kc1 := KC.out w1 hb1; clear hv1))
    go_ret
    exact ⟨rfl, HB0.out.trans (hb1.mono HB0.out.size)⟩
  | true =>
    rw [hall] at HS
    rw [if_pos rfl]
    obtain ⟨ks, rfl⟩ := all_map hall
    have hkl : ks.length = (shape q.text.toList).countP Sg.isK := by simpa using hlen
    have hkt : (ks.map some).map txtO = ks.map Ty.text := by rw [List.map_map]; rfl
    have hjn : ∀ i : Nat, (ks.map some)[i]?.join = ks[i]? := (all_some rfl).2
    rw [hkt] at HK2
    rw [hkt] at HS
    rw [hjn, hjn, hjn]
    have HJ := hid (fun (W : World) (kp : Option Addr) (n3 c3 : Nat) (hkW : Kept w0 W) (hv : SV W kp n3 c3 (ks.map Ty.text)) => l3Join_any q.text ByteArray.empty b N cap (tyIn (shape q.text.toList) qs) env ks n3 kp c3 W (hkW.cell HT0.out) (by omega) h0 (by have := hv.1; simpa using this) hkl
      (fun i t ht => by simpa using hkok i t (by simp [ht])) hgt
      (fun h => by obtain ⟨x, hx, h2, v1, v2, y1, y2, hL⟩ := (hll W hkW).1 h; exact ⟨x, hx, h2, v1, v2, y1, y2, fun W2 hk2 => hL W2 hk2 (kept_size hk2)⟩)
      (fun h => by obtain ⟨x, hx, h2, v1, v2, y1, y2, hL⟩ := (hll W hkW).2 h; exact ⟨x, hx, h2, v1, v2, y1, y2, fun W2 hk2 => hL W2 hk2 (kept_size hk2)⟩) hv)
    generalize limT (joinT q.text.toList (tyIn (shape q.text.toList) qs) [] env ks[0]? ks[1]? ks[2]?) = J at HJ ⊢
    have HK0 := hid hk0
    clear hty hlen hkok hR HKK hll hn hN hA hB hps hwf ih hsn hst hns hts hbn h0 hsl hft ht0 htk hgt henv hbx hall k0 hk0 hk hkt hjn hkl hW0
    go_enter Tryz.func44, Tryz.ntmps44
    go_wp2_with fail
    rw [HW0.out]
    go_wp2_with (first
      | (go_at_call 96; have _ := hb1; refine (HJ.out _ _ _ _ (HK0.out.trans (Kept.of_below hb1 (Nat.le_refl _)) (kept_size HK0.out)) V1.out).mono ?_; rintro e w3 ⟨rfl, hb3⟩)
      | (go_at_call 95; refine (HS.out _ _ _ _ V1.out).mono ?_; rintro e w2 ⟨rfl, rfl⟩)
      | (go_at_call 94; refine HK2.out.mono ?_; rintro e w1 ⟨q3, n3, c3, rfl, hv1, hb1⟩; have V1 := hid hv1; have kc1 := KC.out w1 hb1; clear hv1))
    go_ret
    exact ⟨rfl, HB0.out.trans ((hb1.trans (hb3.mono hb1.size)).mono HB0.out.size)⟩

/-- THE TYPE OF A TERM IN AN ENVIRONMENT, BY THE MODEL. -/
theorem l3Type_any {w0 : World} {S : Nat → Prop} {t : Tree} {h : Hd} (ht : TIn w0 S t h) : t.wt ≤ 12000 → t.ok → t.srt ≠ none → TypAsk w0 t h := by
  induction ht with
  | atom a hne hm => intro _ hok _; exact typ_atom w0 a hne (by have := hok.1; omega)
  | node ps b cap A hp hl hc hS hA hB hps ih =>
    intro hwt hok hwf
    obtain ⟨q, qs, rfl⟩ : ∃ q qs, ps = q :: qs := by cases ps with | nil => simp at hp | cons q qs => exact ⟨q, qs, rfl⟩
    rw [Tree.wt] at hwt
    rw [Tree.ok] at hok
    simp only [List.length_cons] at hl hA hB
    exact typ_node (S := S) (n := qs.length) rfl rfl (by rw [Tree.wts] at hwt; omega) hA hB hps hwf (fun i p hp hw => ih i p hp (by have := wt_part (q :: qs) i p hp; omega) (oks_part _ hok i p hp) hw)
end Go.Proofs.YtdeahcejbdcmpaaGreatDoor
