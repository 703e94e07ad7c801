/- The term of a type by the model: l3Of; TermOf. -/
import Derived.Test.YtfogjomebcponaaDoorKidsP
import Derived.Test.YtfogjomebcponaaDoorOfPur
import Derived.Test.YtfogjomebcponaaDoorText
namespace Go.Proofs.YtfogjomebcponaaDoor
open Go.RowKit

/-- The text of a type's simple term. -/
def SW (t : Ty) : ByteArray := ⟨t.simp.write.toArray⟩
theorem sw_size (t : Ty) : (SW t).size = t.simp.write.length := by simp [SW, ByteArray.size]
theorem sw_bit : ({ data := #[48] } : ByteArray) = SW .bit := by rw [SW, simp_bit]
theorem sw_pair (x y : Ty) : ((({ data := #[40, 112, 97, 105, 114, 32] } : ByteArray) ++ SW x) ++ ({ data := #[32] } : ByteArray)) ++ SW y ++ ({ data := #[41] } : ByteArray) = SW (.pair x y) := by
  apply ByteArray.ext
  show _ = (⟨(Ty.pair x y).simp.write.toArray⟩ : ByteArray).data
  rw [simp_pair]; simp [SW, ByteArray.data_append]
theorem sw_choice (x y : Ty) : ((({ data := #[40, 98, 111, 116, 104, 32] } : ByteArray) ++ SW x) ++ ({ data := #[32] } : ByteArray)) ++ SW y ++ ({ data := #[41] } : ByteArray) = SW (.choice x y) := by
  apply ByteArray.ext
  show _ = (⟨(Ty.choice x y).simp.write.toArray⟩ : ByteArray).data
  rw [simp_choice]; simp [SW, ByteArray.data_append]
theorem sw_fn (x y : Ty) (T : ByteArray) (hT : T.data.toList = x.write) : ((({ data := #[40, 108, 97, 109, 32, 120, 32] } : ByteArray) ++ T) ++ ({ data := #[32] } : ByteArray)) ++ SW y ++ ({ data := #[41] } : ByteArray) = SW (.fn x y) := by
  apply ByteArray.ext
  show _ = (⟨(Ty.fn x y).simp.write.toArray⟩ : ByteArray).data
  rw [simp_fn, ← hT]; simp [SW, ByteArray.data_append]
theorem sw_thunk (x : Ty) : (({ data := #[40, 116, 104, 117, 110, 107, 32] } : ByteArray) ++ SW x) ++ ({ data := #[41] } : ByteArray) = SW (.thunk x) := by
  apply ByteArray.ext
  show _ = (⟨(Ty.thunk x).simp.write.toArray⟩ : ByteArray).data
  rw [simp_thunk]; simp [SW, ByteArray.data_append]
theorem sw_ret (x : Ty) : (({ data := #[40, 114, 101, 116, 117, 114, 110, 32] } : ByteArray) ++ SW x) ++ ({ data := #[41] } : ByteArray) = SW (.ret x) := by
  apply ByteArray.ext
  show _ = (⟨(Ty.ret x).simp.write.toArray⟩ : ByteArray).data
  rw [simp_ret]; simp [SW, ByteArray.data_append]
theorem ty_node_inv {q : Tree} {qs : List Tree} {ty : Ty} (h : Tree.ty (.node (q :: qs)) = some ty) :
    (∃ p1 x, qs = [p1] ∧ p1.ty = some x ∧ ((q.text.toList = [117] ∧ ty = .thunk x) ∨ (q.text.toList = [102] ∧ ty = .ret x))) ∨
    (∃ p1 p2 x y, qs = [p1, p2] ∧ p1.ty = some x ∧ p2.ty = some y ∧ ((q.text.toList = [42] ∧ ty = .pair x y) ∨ (q.text.toList = [62] ∧ ty = .fn x y) ∨ (q.text.toList = [38] ∧ ty = .choice x y))) := by
  rw [Tree.ty] at h
  match qs, h with
  | [], h => simp [Tree.tys, tyParts] at h
  | [p1], h =>
    cases h1 : p1.ty with
    | none => simp [Tree.tys, h1] at h
    | some x =>
      simp only [Tree.tys, h1, tyParts] at h
      refine Or.inl ⟨p1, x, rfl, h1, ?_⟩
      split at h
      · rename_i c; simp at h; exact Or.inl ⟨c.1, h.symm⟩
      · split at h
        · rename_i c; simp at h; exact Or.inr ⟨c.1, h.symm⟩
        · simp at h
  | [p1, p2], h =>
    cases h1 : p1.ty with
    | none => simp [Tree.tys, h1] at h
    | some x =>
      cases h2 : p2.ty with
      | none => simp [Tree.tys, h1, h2] at h
      | some y =>
        simp only [Tree.tys, h1, h2, tyParts] at h
        refine Or.inr ⟨p1, p2, x, y, rfl, h1, h2, ?_⟩
        split at h
        · rename_i c; simp at h; exact Or.inl ⟨c.1, h.symm⟩
        · split at h
          · rename_i c; simp at h; exact Or.inr (Or.inl ⟨c.1, h.symm⟩)
          · split at h
            · rename_i c; simp at h; exact Or.inr (Or.inr ⟨c.1, h.symm⟩)
            · simp at h
  | p1 :: p2 :: p3 :: r, h =>
    exfalso
    cases h1 : p1.ty with
    | none => simp [Tree.tys, h1] at h
    | some x =>
      cases h2 : p2.ty with
      | none => simp [Tree.tys, h1, h2] at h
      | some y =>
        cases h3 : p3.ty with
        | none => simp [Tree.tys, h1, h2, h3] at h
        | some z =>
          cases h4 : Tree.tys r with
          | none => simp [Tree.tys, h1, h2, h3, h4] at h
          | some ts => simp [Tree.tys, h1, h2, h3, h4, tyParts] at h
/-- What l3Of is asked. -/
def OfAsk (w0 : World) (h : Hd) (ty : Ty) : Prop := ∀ W, Kept w0 W → w0.heap.size ≤ W.heap.size → Calls Tryd.prog 10 #[.agg #[.string h.a, .slice h.p h.l h.c]] W fun e w' => e = .returned (.string (SW ty)) ∧ Below W.heap.size W w'

set_option maxRecDepth 100000 in
set_option maxHeartbeats 4000000 in
theorem of_thunk {w0 : World} {b cap : Nat} {h1 : Hd} (x : Ty) (hx : x.atoms ≤ 12) (h0 : w0.cell? ⟨b, 0, none⟩ = some (.string ⟨#[117]⟩)) (ha : w0.cell? ⟨b, 2, none⟩ = some (.string h1.a)) (hb : w0.cell? ⟨b, 3, none⟩ = some (.slice h1.p h1.l h1.c)) (ih : OfAsk w0 h1 x) :
    OfAsk w0 ⟨ByteArray.empty, some ⟨b, 0, none⟩, 2, cap⟩ (.thunk x) := by
  intro w hk hw
  have hsz := simp_len x
  have hss : (SW x).size ≤ 500 := by rw [sw_size]; omega
  have HS := hid (sw_thunk x)
  have HX := hid (fun W (h : Below (w.heap.size + 1) (w.alloc (.cells #[.string ByteArray.empty, .slice (some ⟨b, 0, none⟩) 2 cap] 27)) W) => ih W ((hk.alloc hw _).below h (by omega)) (by have := h.size; simp at this; omega))
  have HK := hid (fun W (h : Below (w.heap.size + 1) (w.alloc (.cells #[.string ByteArray.empty, .slice (some ⟨b, 0, none⟩) 2 cap] 27)) W) => (hk.alloc hw _).below h (by omega))
  have hk1 := HK.out _ (Below.refl _ _)
  have c0 := hk1.cell h0
  have ca := hk1.cell ha
  have cb := hk1.cell hb
  have H0 := hid h0
  obtain ⟨X, hX⟩ : ∃ X, SW x = X := ⟨_, rfl⟩
  rw [hX] at HS hss
  have HX2 := hid (fun W h => by have := HX.out W h; rw [hX] at this; exact this)
  clear hX HX h0 ha hb hk1 ih hk hsz
  go_enter Tryd.func10, Tryd.ntmps10
  go_wp2_with (go_at_call 10; refine (HX2.out _ (Below.refl _ _)).mono ?_; rintro e w1 ⟨rfl, hb1⟩; have hb1' := hb1.mono (show w.heap.size + 1 ≤ _ from by simp); have kc := cells_of_pair (block_below (heap_new w (.cells #[.string ByteArray.empty, .slice (some ⟨b, 0, none⟩) 2 cap] 27) w.heap.size rfl) hb1' (by omega)); have c01 := (HK.out _ hb1').cell H0.out)
  go_ret
  exact ⟨ret_str HS.out, ((Below.refl w.heap.size w).alloc (Nat.le_refl _) _).trans (hb1.mono (by simp))⟩

set_option maxRecDepth 100000 in
set_option maxHeartbeats 4000000 in
theorem of_ret {w0 : World} {b cap : Nat} {h1 : Hd} (x : Ty) (hx : x.atoms ≤ 12) (h0 : w0.cell? ⟨b, 0, none⟩ = some (.string ⟨#[102]⟩)) (ha : w0.cell? ⟨b, 2, none⟩ = some (.string h1.a)) (hb : w0.cell? ⟨b, 3, none⟩ = some (.slice h1.p h1.l h1.c)) (ih : OfAsk w0 h1 x) :
    OfAsk w0 ⟨ByteArray.empty, some ⟨b, 0, none⟩, 2, cap⟩ (.ret x) := by
  intro w hk hw
  have hsz := simp_len x
  have hss : (SW x).size ≤ 500 := by rw [sw_size]; omega
  have HS := hid (sw_ret x)
  have HX := hid (fun W (h : Below (w.heap.size + 1) (w.alloc (.cells #[.string ByteArray.empty, .slice (some ⟨b, 0, none⟩) 2 cap] 27)) W) => ih W ((hk.alloc hw _).below h (by omega)) (by have := h.size; simp at this; omega))
  have HK := hid (fun W (h : Below (w.heap.size + 1) (w.alloc (.cells #[.string ByteArray.empty, .slice (some ⟨b, 0, none⟩) 2 cap] 27)) W) => (hk.alloc hw _).below h (by omega))
  have hk1 := HK.out _ (Below.refl _ _)
  have c0 := hk1.cell h0
  have ca := hk1.cell ha
  have cb := hk1.cell hb
  have H0 := hid h0
  obtain ⟨X, hX⟩ : ∃ X, SW x = X := ⟨_, rfl⟩
  rw [hX] at HS hss
  have HX2 := hid (fun W h => by have := HX.out W h; rw [hX] at this; exact this)
  clear hX HX h0 ha hb hk1 ih hk hsz
  go_enter Tryd.func10, Tryd.ntmps10
  go_wp2_with (go_at_call 10; refine (HX2.out _ (Below.refl _ _)).mono ?_; rintro e w1 ⟨rfl, hb1⟩; have hb1' := hb1.mono (show w.heap.size + 1 ≤ _ from by simp); have kc := cells_of_pair (block_below (heap_new w (.cells #[.string ByteArray.empty, .slice (some ⟨b, 0, none⟩) 2 cap] 27) w.heap.size rfl) hb1' (by omega)); have c01 := (HK.out _ hb1').cell H0.out)
  go_ret
  exact ⟨ret_str HS.out, ((Below.refl w.heap.size w).alloc (Nat.le_refl _) _).trans (hb1.mono (by simp))⟩

set_option maxRecDepth 100000 in
set_option maxHeartbeats 4000000 in
theorem of_pair {w0 : World} {b cap : Nat} {h1 h2 : Hd} (x y : Ty) (hx : x.atoms ≤ 12) (hy : y.atoms ≤ 12) (h0 : w0.cell? ⟨b, 0, none⟩ = some (.string ⟨#[42]⟩)) (ha : w0.cell? ⟨b, 2, none⟩ = some (.string h1.a)) (hb : w0.cell? ⟨b, 3, none⟩ = some (.slice h1.p h1.l h1.c))
    (ha2 : w0.cell? ⟨b, 4, none⟩ = some (.string h2.a)) (hb2 : w0.cell? ⟨b, 5, none⟩ = some (.slice h2.p h2.l h2.c)) (ih : OfAsk w0 h1 x) (ih2 : OfAsk w0 h2 y) :
    OfAsk w0 ⟨ByteArray.empty, some ⟨b, 0, none⟩, 3, cap⟩ (.pair x y) := by
  intro w hk hw
  have hsz := simp_len x
  have hss : (SW x).size ≤ 500 := by rw [sw_size]; omega
  have hsz2 := simp_len y
  have hss2 : (SW y).size ≤ 500 := by rw [sw_size]; omega
  have HS := hid (sw_pair x y)
  have HX := hid (fun W (h : Below (w.heap.size + 1) (w.alloc (.cells #[.string ByteArray.empty, .slice (some ⟨b, 0, none⟩) 3 cap] 27)) W) => ih W ((hk.alloc hw _).below h (by omega)) (by have := h.size; simp at this; omega))
  have HY := hid (fun W (h : Below (w.heap.size + 1) (w.alloc (.cells #[.string ByteArray.empty, .slice (some ⟨b, 0, none⟩) 3 cap] 27)) W) => ih2 W ((hk.alloc hw _).below h (by omega)) (by have := h.size; simp at this; omega))
  have HK := hid (fun W (h : Below (w.heap.size + 1) (w.alloc (.cells #[.string ByteArray.empty, .slice (some ⟨b, 0, none⟩) 3 cap] 27)) W) => (hk.alloc hw _).below h (by omega))
  have hk1 := HK.out _ (Below.refl _ _)
  have c0 := hk1.cell h0
  have ca := hk1.cell ha
  have cb := hk1.cell hb
  have H0 := hid h0
  have H2a := hid ha2
  have H2b := hid hb2
  obtain ⟨X, hX⟩ : ∃ X, SW x = X := ⟨_, rfl⟩
  rw [hX] at HS hss
  have HX2 := hid (fun W h => by have := HX.out W h; rw [hX] at this; exact this)
  obtain ⟨Y, hY⟩ : ∃ Y, SW y = Y := ⟨_, rfl⟩
  rw [hY] at HS hss2
  have HY2 := hid (fun W h => by have := HY.out W h; rw [hY] at this; exact this)
  clear hX HX hY HY h0 ha hb ha2 hb2 hk1 ih ih2 hk hsz hsz2
  go_enter Tryd.func10, Tryd.ntmps10
  go_wp2_with (first | (go_at_call 10; have _ := hb1; refine (HY2.out _ hb1').mono ?_; rintro e w2 ⟨rfl, hb2⟩) | (go_at_call 10; refine (HX2.out _ (Below.refl _ _)).mono ?_; rintro e w1 ⟨rfl, hb1⟩; have hb1' := hb1.mono (show w.heap.size + 1 ≤ _ from by simp); have kc := cells_of_pair (block_below (heap_new w (.cells #[.string ByteArray.empty, .slice (some ⟨b, 0, none⟩) 3 cap] 27) w.heap.size rfl) hb1' (by omega)); have c01 := (HK.out _ hb1').cell H0.out; have ca1 := (HK.out _ hb1').cell H2a.out; have cb1 := (HK.out _ hb1').cell H2b.out))
  go_ret
  exact ⟨ret_str HS.out, ((Below.refl w.heap.size w).alloc (Nat.le_refl _) _).trans ((hb1.mono (by simp)).trans (hb2.mono (by have := hb1.size; simp at this; omega)))⟩

set_option maxRecDepth 100000 in
set_option maxHeartbeats 4000000 in
theorem of_choice {w0 : World} {b cap : Nat} {h1 h2 : Hd} (x y : Ty) (hx : x.atoms ≤ 12) (hy : y.atoms ≤ 12) (h0 : w0.cell? ⟨b, 0, none⟩ = some (.string ⟨#[38]⟩)) (ha : w0.cell? ⟨b, 2, none⟩ = some (.string h1.a)) (hb : w0.cell? ⟨b, 3, none⟩ = some (.slice h1.p h1.l h1.c))
    (ha2 : w0.cell? ⟨b, 4, none⟩ = some (.string h2.a)) (hb2 : w0.cell? ⟨b, 5, none⟩ = some (.slice h2.p h2.l h2.c)) (ih : OfAsk w0 h1 x) (ih2 : OfAsk w0 h2 y) :
    OfAsk w0 ⟨ByteArray.empty, some ⟨b, 0, none⟩, 3, cap⟩ (.choice x y) := by
  intro w hk hw
  have hsz := simp_len x
  have hss : (SW x).size ≤ 500 := by rw [sw_size]; omega
  have hsz2 := simp_len y
  have hss2 : (SW y).size ≤ 500 := by rw [sw_size]; omega
  have HS := hid (sw_choice x y)
  have HX := hid (fun W (h : Below (w.heap.size + 1) (w.alloc (.cells #[.string ByteArray.empty, .slice (some ⟨b, 0, none⟩) 3 cap] 27)) W) => ih W ((hk.alloc hw _).below h (by omega)) (by have := h.size; simp at this; omega))
  have HY := hid (fun W (h : Below (w.heap.size + 1) (w.alloc (.cells #[.string ByteArray.empty, .slice (some ⟨b, 0, none⟩) 3 cap] 27)) W) => ih2 W ((hk.alloc hw _).below h (by omega)) (by have := h.size; simp at this; omega))
  have HK := hid (fun W (h : Below (w.heap.size + 1) (w.alloc (.cells #[.string ByteArray.empty, .slice (some ⟨b, 0, none⟩) 3 cap] 27)) W) => (hk.alloc hw _).below h (by omega))
  have hk1 := HK.out _ (Below.refl _ _)
  have c0 := hk1.cell h0
  have ca := hk1.cell ha
  have cb := hk1.cell hb
  have H0 := hid h0
  have H2a := hid ha2
  have H2b := hid hb2
  obtain ⟨X, hX⟩ : ∃ X, SW x = X := ⟨_, rfl⟩
  rw [hX] at HS hss
  have HX2 := hid (fun W h => by have := HX.out W h; rw [hX] at this; exact this)
  obtain ⟨Y, hY⟩ : ∃ Y, SW y = Y := ⟨_, rfl⟩
  rw [hY] at HS hss2
  have HY2 := hid (fun W h => by have := HY.out W h; rw [hY] at this; exact this)
  clear hX HX hY HY h0 ha hb ha2 hb2 hk1 ih ih2 hk hsz hsz2
  go_enter Tryd.func10, Tryd.ntmps10
  go_wp2_with (first | (go_at_call 10; have _ := hb1; refine (HY2.out _ hb1').mono ?_; rintro e w2 ⟨rfl, hb2⟩) | (go_at_call 10; refine (HX2.out _ (Below.refl _ _)).mono ?_; rintro e w1 ⟨rfl, hb1⟩; have hb1' := hb1.mono (show w.heap.size + 1 ≤ _ from by simp); have kc := cells_of_pair (block_below (heap_new w (.cells #[.string ByteArray.empty, .slice (some ⟨b, 0, none⟩) 3 cap] 27) w.heap.size rfl) hb1' (by omega)); have c01 := (HK.out _ hb1').cell H0.out; have ca1 := (HK.out _ hb1').cell H2a.out; have cb1 := (HK.out _ hb1').cell H2b.out))
  go_ret
  exact ⟨ret_str HS.out, ((Below.refl w.heap.size w).alloc (Nat.le_refl _) _).trans ((hb1.mono (by simp)).trans (hb2.mono (by have := hb1.size; simp at this; omega)))⟩

set_option maxRecDepth 100000 in
set_option maxHeartbeats 8000000 in
theorem of_fn {w0 : World} {b cap : Nat} {h1 h2 : Hd} {p1 : Tree} (x y : Ty) (hx : x.atoms ≤ 12) (hy : y.atoms ≤ 12) (h0 : w0.cell? ⟨b, 0, none⟩ = some (.string ⟨#[62]⟩)) (ha : w0.cell? ⟨b, 2, none⟩ = some (.string h1.a)) (hb : w0.cell? ⟨b, 3, none⟩ = some (.slice h1.p h1.l h1.c))
    (ha2 : w0.cell? ⟨b, 4, none⟩ = some (.string h2.a)) (hb2 : w0.cell? ⟨b, 5, none⟩ = some (.slice h2.p h2.l h2.c)) (ih : OfAsk w0 h1 x) (ih2 : OfAsk w0 h2 y)
    (hT : p1.write = x.write) (it : ∀ W, Kept w0 W → w0.heap.size ≤ W.heap.size → Calls Tryd.prog 21 #[.agg #[.string h1.a, .slice h1.p h1.l h1.c]] W fun e w' => e = .returned (.string p1.txt) ∧ Below W.heap.size W w') :
    OfAsk w0 ⟨ByteArray.empty, some ⟨b, 0, none⟩, 3, cap⟩ (.fn x y) := by
  intro w hk hw
  have hsz := simp_len x
  have hss : (SW x).size ≤ 500 := by rw [sw_size]; omega
  have hsz2 := simp_len y
  have hss2 : (SW y).size ≤ 500 := by rw [sw_size]; omega
  have hsz3 := write_len x
  have hss3 : p1.txt.size ≤ 500 := by rw [txt_size, hT]; omega
  have HS := hid (sw_fn x y p1.txt (show p1.txt.data.toList = _ from hT))
  obtain ⟨W0, hW0⟩ : ∃ W0, W0 = w.alloc (.cells #[.string ByteArray.empty, .slice (some ⟨b, 0, none⟩) 3 cap] 27) := ⟨_, rfl⟩
  have hkW : Kept w0 W0 := by rw [hW0]; exact hk.alloc hw _
  have hsW : W0.heap.size = w.heap.size + 1 := by rw [hW0]; simp
  have hbx := heap_new w (.cells #[.string ByteArray.empty, .slice (some ⟨b, 0, none⟩) 3 cap] 27) w.heap.size rfl
  rw [← hW0] at hbx
  have hbw : Below w.heap.size w W0 := by rw [hW0]; exact (Below.refl _ _).alloc (Nat.le_refl _) _
  have HX := hid (fun W (h : Below W0.heap.size W0 W) => ih W (hkW.below h (by omega)) (by have := h.size; omega))
  have HY := hid (fun W (h : Below W0.heap.size W0 W) => ih2 W (hkW.below h (by omega)) (by have := h.size; omega))
  have HT := hid (fun W (h : Below W0.heap.size W0 W) => it W (hkW.below h (by omega)) (by have := h.size; omega))
  have HKC := hid (fun W (h : Below W0.heap.size W0 W) => (show (W.cell? ⟨w.heap.size, 0, none⟩ = some (.string ByteArray.empty) ∧ W.cell? ⟨w.heap.size, 1, none⟩ = some (.slice (some ⟨b, 0, none⟩) 3 cap)) ∧ W.cell? ⟨b, 0, none⟩ = some (.string ⟨#[62]⟩) ∧ W.cell? ⟨b, 2, none⟩ = some (.string h1.a) ∧ W.cell? ⟨b, 3, none⟩ = some (.slice h1.p h1.l h1.c) ∧ W.cell? ⟨b, 4, none⟩ = some (.string h2.a) ∧ W.cell? ⟨b, 5, none⟩ = some (.slice h2.p h2.l h2.c) from by
    have c := cells_of_pair (block_below hbx h (by omega))
    have hkk := hkW.below h (by omega)
    exact ⟨⟨c.1, c.2.1⟩, hkk.cell h0, hkk.cell ha, hkk.cell hb, hkk.cell ha2, hkk.cell hb2⟩))
  have c0 := HKC.out _ (Below.refl _ _)
  rw [hW0] at c0
  obtain ⟨X, hX⟩ : ∃ X, SW x = X := ⟨_, rfl⟩
  rw [hX] at hss
  have HX2 := hid (fun W h => by have := HX.out W h; rw [hX] at this; exact this)
  obtain ⟨Y, hY⟩ : ∃ Y, SW y = Y := ⟨_, rfl⟩
  rw [hY] at HS hss2
  have HY2 := hid (fun W h => by have := HY.out W h; rw [hY] at this; exact this)
  obtain ⟨T, hTT⟩ : ∃ T, p1.txt = T := ⟨_, rfl⟩
  rw [hTT] at HS hss3 HT
  have HW0 := hid hW0
  have HBW := hid hbw
  have HSW := hid hsW
  have hwl : w.heap.size < W0.heap.size := by omega
  clear hX HX hY HY h0 ha hb ha2 hb2 ih ih2 it hk hsz hsz2 hsz3 hT hkW hsW hbx hTT hW0 hbw
  go_enter Tryd.func10, Tryd.ntmps10
  go_wp2_with (go_at_call 10; rw [← HW0.out]; refine (HX2.out _ (Below.refl _ _)).mono ?_; rintro e w1 ⟨rfl, hb1⟩; have c1 := HKC.out _ hb1)
  have HB1 := hid (hb1.trans ((Below.refl w1.heap.size w1).drew.mono hb1.size))
  have HS1 := hid hb1.size
  clear hb1 c0
  go_region_with (first
    | (go_at_call 10; first
       | (have _ := HBT; refine (HY2.out _ HBT.out).mono ?_; rintro e w3 ⟨rfl, hb3⟩; have HBY := hid (HBT.out.trans (hb3.mono HBT.out.size)); have c3 := HKC.out _ HBY.out; clear hb3)
       | (refine (HY2.out _ HB1.out).mono ?_; rintro e w3 ⟨rfl, hb3⟩; have HBY := hid (HB1.out.trans (hb3.mono HB1.out.size)); have c3 := HKC.out _ HBY.out; clear hb3))
    | (go_at_call 21; refine (HT.out _ HB1.out).mono ?_; rintro e w2 ⟨rfl, hb2⟩; have HBT := hid (HB1.out.trans (hb2.mono HB1.out.size)); have c2 := HKC.out _ HBT.out; clear hb2))
  all_goals
    go_wp2_with fail
    go_ret
    exact ⟨ret_str HS.out, HBW.out.trans (HBY.out.mono (by have := HSW.out; omega))⟩
theorem text_byte {q : Tree} {c : UInt8} (h : q.text.toList = [c]) : q.text = ⟨#[c]⟩ := bytes_of_toList h

/-- THE MODEL's TERM OF A TYPE. -/
theorem l3Of_any {w0 : World} {S : Nat → Prop} {t : Tree} {h : Hd} (ht : TIn w0 S t h) : ∀ ty, t.ty = some ty → ty.atoms ≤ 12 → t.wt ≤ 12000 → OfAsk w0 h ty := by
  have htx := fun (hl : t.write.length ≤ 12000) (hw : t.wt ≤ 12000) => l1Text_any ht hl hw
  clear htx
  induction ht with
  | atom s hne hm =>
    intro ty hty _ _ w _ _
    have he := isEmpty_not s hne
    have hb : ty = .bit := by
      rw [Tree.ty] at hty
      split at hty
      · simp at hty; exact hty.symm
      · simp at hty
    subst hb
    clear hty
    go_enter Tryd.func10, Tryd.ntmps10
    go_wp2_with fail
    go_ret
    exact ⟨ret_str sw_bit, (Below.refl _ _).alloc (Nat.le_refl _) _⟩
  | node ps b cap A hp hl hc hS hA hB hps ih =>
    intro ty hty hat hwt
    obtain ⟨q, qs, rfl⟩ : ∃ q qs, ps = q :: qs := by cases ps with | nil => simp at hp | cons q qs => exact ⟨q, qs, rfl⟩
    rw [Tree.wt] at hwt
    have h0 : w0.cell? ⟨b, 0, none⟩ = some (.string q.text) := by
      have := hA 0 hp
      rw [(hps 0 q rfl).text] at this; simpa using this
    rcases ty_node_inv hty with ⟨p1, x, rfl, h1, hcase⟩ | ⟨p1, p2, x, y, rfl, h1, h2, hcase⟩
    · have hA1 := hA 1 (by simp)
      have hB1 := hB 1 (by simp)
      have hw1 := wt_part [q, p1] 1 p1 rfl
      rcases hcase with ⟨hq, rfl⟩ | ⟨hq, rfl⟩
      · rw [text_byte hq] at h0
        rw [Ty.atoms] at hat
        exact of_thunk x (by omega) h0 (by simpa using hA1) (by simpa using hB1) (ih 1 p1 rfl x h1 (by omega) (by omega))
      · rw [text_byte hq] at h0
        rw [Ty.atoms] at hat
        exact of_ret x (by omega) h0 (by simpa using hA1) (by simpa using hB1) (ih 1 p1 rfl x h1 (by omega) (by omega))
    · have hA1 := hA 1 (by simp)
      have hB1 := hB 1 (by simp)
      have hA2 := hA 2 (by simp)
      have hB2 := hB 2 (by simp)
      have hw1 := wt_part [q, p1, p2] 1 p1 rfl
      have hw2 := wt_part [q, p1, p2] 2 p2 rfl
      rcases hcase with ⟨hq, rfl⟩ | ⟨hq, rfl⟩ | ⟨hq, rfl⟩
      · rw [text_byte hq] at h0
        rw [Ty.atoms] at hat
        exact of_pair x y (by omega) (by omega) h0 (by simpa using hA1) (by simpa using hB1) (by simpa using hA2) (by simpa using hB2) (ih 1 p1 rfl x h1 (by omega) (by omega)) (ih 2 p2 rfl y h2 (by omega) (by omega))
      · rw [text_byte hq] at h0
        rw [Ty.atoms] at hat
        have hpw : p1.write = x.write := ty_write p1 x h1
        have hwl := write_len x
        exact of_fn (p1 := p1) x y (by omega) (by omega) h0 (by simpa using hA1) (by simpa using hB1) (by simpa using hA2) (by simpa using hB2) (ih 1 p1 rfl x h1 (by omega) (by omega)) (ih 2 p2 rfl y h2 (by omega) (by omega)) hpw (l1Text_any (hps 1 p1 rfl) (by rw [hpw]; omega) (by omega))
      · rw [text_byte hq] at h0
        rw [Ty.atoms] at hat
        exact of_choice x y (by omega) (by omega) h0 (by simpa using hA1) (by simpa using hB1) (by simpa using hA2) (by simpa using hB2) (ih 1 p1 rfl x h1 (by omega) (by omega)) (ih 2 p2 rfl y h2 (by omega) (by omega))
end Go.Proofs.YtfogjomebcponaaDoor
