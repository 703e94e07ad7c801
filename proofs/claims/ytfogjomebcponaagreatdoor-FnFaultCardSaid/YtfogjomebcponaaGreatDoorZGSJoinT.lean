/- Merged: JoinT. -/
import Derived.Test.YtfogjomebcponaaGreatDoorZGSJoinS
namespace Go.Proofs.YtfogjomebcponaaGreatDoor
open Go.RowKit
theorem lit {t : Ty} (h : t.good) : limT (some t) = some t := by rw [limT, if_pos h.2]
theorem good_thunk {c : Ty} (h : (Ty.thunk c).good) : c.good := by
 unfold Ty.good at h ⊢; simp only [Ty.wf, Ty.atoms, Bool.and_eq_true] at h; exact ⟨h.1.1, by omega⟩
theorem good_fn {a c : Ty} (h : (Ty.fn a c).good) : c.good := by
 unfold Ty.good at h ⊢; simp only [Ty.wf, Ty.atoms, Bool.and_eq_true] at h; exact ⟨h.1.1.1.2, by omega⟩
theorem good_choice {a c : Ty} (h : (Ty.choice a c).good) : a.good ∧ c.good := by
 unfold Ty.good at h ⊢; simp only [Ty.wf, Ty.atoms, Bool.and_eq_true] at h; exact ⟨⟨h.1.1.1.1, by omega⟩, ⟨h.1.1.1.2, by omega⟩⟩
theorem ty_nil (y : Ty) : y.text.toList ≠ [] := by rw [tyt]; cases y <;> simp [Ty.write]
theorem txt_none : (txtO none).toList = [] := (txtO_nil none).2 rfl
theorem len1 {α : Type} {l : List α} (h : l.length = 1) : ∃ x, l = [x] := by
 match l, h with
 | [x], _ => exact ⟨x, rfl⟩
theorem len2 {α : Type} {l : List α} (h : l.length = 2) : ∃ x y, l = [x, y] := by
 match l, h with
 | [x, y], _ => exact ⟨x, y, rfl⟩
theorem len3 {α : Type} {l : List α} (h : l.length = 3) : ∃ x y z, l = [x, y, z] := by
 match l, h with
 | [x, y, z], _ => exact ⟨x, y, z, rfl⟩
theorem joi {o o' : Option Ty} (h : o = o') {w w' : World} {e : Ending} (hp : Joi o w e w') : Joi o' w e w' := h ▸ hp
theorem l3Join_any (h a : ByteArray) (b N cap : Nat) (ty : Option Ty) (env : List (ByteArray × Ty)) (ks : List Ty) (n : Nat) (kp : Option Addr) (kc : Nat) (w : World) (hc0 : w.cell? ⟨b, 0, none⟩ = some (.string h)) (hN : 0 < N) (hsh : shape h.toList ≠ [])
    (hn : ks.length = n) (hl : ks.length = (shape h.toList).countP Sg.isK) (hk : ∀ (i : Nat) t, ks[i]? = some t → t.good ∧ (kSorts (shape h.toList))[i]? = some t.isVal) (hT : ∀ t, ty = some t → t.good ∧ tSort (shape h.toList) = some t.isVal)
    (hlam : h.toList = [108, 97, 109] → ∃ x, ty = some x ∧ 2 < N ∧ ∃ v1 v2, w.cell? ⟨b, 4, none⟩ = some v1 ∧ w.cell? ⟨b, 5, none⟩ = some v2 ∧ ∀ W, Kept w W → Calls Tryz.prog 71 #[.agg #[v1, v2]] W fun e w' => e = .returned (.string x.text) ∧ Below W.heap.size W w')
    (hfail : h.toList = [102, 97, 105, 108] → ∃ x, ty = some x ∧ 1 < N ∧ ∃ v1 v2, w.cell? ⟨b, 2, none⟩ = some v1 ∧ w.cell? ⟨b, 3, none⟩ = some v2 ∧ ∀ W, Kept w W → Calls Tryz.prog 71 #[.agg #[v1, v2]] W fun e w' => e = .returned (.string x.text) ∧ Below W.heap.size W w')
    (hv : SV w kp n kc (ks.map Ty.text)) : Calls Tryz.prog 62 #[.agg #[.string a, .slice (some ⟨b, 0, none⟩) N cap], .slice kp n kc] w (Joi (limT (joinT h.toList ty [] env ks[0]? ks[1]? ks[2]?)) w) := by
 subst hn
 by_cases c : h.toList = [112, 97, 105, 114]
 ·rw [c] at hl hk hT
  obtain ⟨x, y, rfl⟩ := len2 (show ks.length = 2 from hl)
  have gx := (hk 0 x rfl).1
  have vx : x.isVal = _ := (Option.some.inj (hk 0 x rfl).2).symm
  have gy := (hk 1 y rfl).1
  have vy : y.isVal = _ := (Option.some.inj (hk 1 y rfl).2).symm
  rw [c]
  refine (join_pair h a b N cap x y gx gy vx vy kp _ w hc0 c hN hv).mono fun e w' hp => joi ?_ hp
  rfl
 by_cases c : h.toList = [116, 104, 117, 110, 107]
 ·rw [c] at hl hk hT
  obtain ⟨x, rfl⟩ := len1 (show ks.length = 1 from hl)
  have gx := (hk 0 x rfl).1
  have vx : x.isVal = _ := (Option.some.inj (hk 0 x rfl).2).symm
  rw [c]
  refine (join_thunk h a b N cap x gx vx kp _ w hc0 c hN hv).mono fun e w' hp => joi ?_ hp
  rfl
 by_cases c : h.toList = [114, 101, 116, 117, 114, 110]
 ·rw [c] at hl hk hT
  obtain ⟨x, rfl⟩ := len1 (show ks.length = 1 from hl)
  have gx := (hk 0 x rfl).1
  have vx : x.isVal = _ := (Option.some.inj (hk 0 x rfl).2).symm
  rw [c]
  refine (join_return h a b N cap x gx vx kp _ w hc0 c hN hv).mono fun e w' hp => joi ?_ hp
  rfl
 by_cases c : h.toList = [116, 111]
 ·rw [c] at hl hk hT
  obtain ⟨x, y, rfl⟩ := len2 (show ks.length = 2 from hl)
  have gx := (hk 0 x rfl).1
  have vx : x.isVal = _ := (Option.some.inj (hk 0 x rfl).2).symm
  have gy := (hk 1 y rfl).1
  have vy : y.isVal = _ := (Option.some.inj (hk 1 y rfl).2).symm
  rw [c]
  refine (join_to h a b N cap x y kp _ w hc0 c hN hv).mono fun e w' hp => joi ?_ hp
  exact (lit gy).symm
 by_cases c : h.toList = [115, 112, 108, 105, 116]
 ·rw [c] at hl hk hT
  obtain ⟨x, y, rfl⟩ := len2 (show ks.length = 2 from hl)
  have gx := (hk 0 x rfl).1
  have vx : x.isVal = _ := (Option.some.inj (hk 0 x rfl).2).symm
  have gy := (hk 1 y rfl).1
  have vy : y.isVal = _ := (Option.some.inj (hk 1 y rfl).2).symm
  rw [c]
  refine (join_split h a b N cap x y kp _ w hc0 c hN hv).mono fun e w' hp => joi ?_ hp
  exact (lit gy).symm
 by_cases c : h.toList = [102, 111, 114, 99, 101]
 ·rw [c] at hl hk hT
  obtain ⟨x, rfl⟩ := len1 (show ks.length = 1 from hl)
  have gx := (hk 0 x rfl).1
  have vx : x.isVal = _ := (Option.some.inj (hk 0 x rfl).2).symm
  rw [c]
  refine (join_force h a b N cap x gx kp _ w hc0 c hN hv).mono fun e w' hp => joi ?_ hp
  cases x with
  | thunk u => exact (lit (good_thunk gx)).symm
  | _ => rfl
 by_cases c : h.toList = [108, 97, 109]
 ·rw [c] at hl hk hT
  obtain ⟨x, rfl⟩ := len1 (show ks.length = 1 from hl)
  have gx := (hk 0 x rfl).1
  have vx : x.isVal = _ := (Option.some.inj (hk 0 x rfl).2).symm
  rw [c]
  obtain ⟨y, rfl, h2n, v1, v2, q1, q2, hL⟩ := hlam c
  have gy := (hT y rfl).1
  have vy : y.isVal = _ := (Option.some.inj (hT y rfl).2).symm
  refine (join_lam h a b N cap kp _ w x y h2n v1 v2 q1 q2 hL gy gx vy vx hc0 c hN hv).mono fun e w' hp => joi ?_ hp
  rfl
 by_cases c : h.toList = [97, 112, 112]
 ·rw [c] at hl hk hT
  obtain ⟨x, y, rfl⟩ := len2 (show ks.length = 2 from hl)
  have gx := (hk 0 x rfl).1
  have vx : x.isVal = _ := (Option.some.inj (hk 0 x rfl).2).symm
  have gy := (hk 1 y rfl).1
  have vy : y.isVal = _ := (Option.some.inj (hk 1 y rfl).2).symm
  rw [c]
  refine (join_app h a b N cap x y gx kp _ w hc0 c hN hv).mono fun e w' hp => joi ?_ hp
  have hy := ty_nil y
  cases x with
  | fn u v =>
   show (if (txtO (some u)).toList = y.text.toList then some v else none) = limT (if u.write = y.write then some v else none)
   rw [txtO, tyt, tyt]
   split
   ·exact (lit (good_fn gx)).symm
   ·rfl
  | _ => exact (if_neg (fun e => hy (e.symm.trans txt_none))).trans rfl
 by_cases c : h.toList = [105, 102]
 ·rw [c] at hl hk hT
  obtain ⟨x, y, z, rfl⟩ := len3 (show ks.length = 3 from hl)
  have gx := (hk 0 x rfl).1
  have vx : x.isVal = _ := (Option.some.inj (hk 0 x rfl).2).symm
  have gy := (hk 1 y rfl).1
  have vy : y.isVal = _ := (Option.some.inj (hk 1 y rfl).2).symm
  have gz := (hk 2 z rfl).1
  have vz : z.isVal = _ := (Option.some.inj (hk 2 z rfl).2).symm
  rw [c]
  refine (join_if h a b N cap x y z kp _ w hc0 c hN hv).mono fun e w' hp => joi ?_ hp
  cases x with
  | bit =>
   show (if y.write = z.write then some y else none) = limT (if y.write = z.write then some y else none)
   split
   ·exact (lit gy).symm
   ·rfl
  | _ => rfl
 by_cases c : h.toList = [98, 111, 116, 104]
 ·rw [c] at hl hk hT
  obtain ⟨x, y, rfl⟩ := len2 (show ks.length = 2 from hl)
  have gx := (hk 0 x rfl).1
  have vx : x.isVal = _ := (Option.some.inj (hk 0 x rfl).2).symm
  have gy := (hk 1 y rfl).1
  have vy : y.isVal = _ := (Option.some.inj (hk 1 y rfl).2).symm
  rw [c]
  refine (join_both h a b N cap x y gx gy vx vy kp _ w hc0 c hN hv).mono fun e w' hp => joi ?_ hp
  rfl
 by_cases c : h.toList = [102, 115, 116]
 ·rw [c] at hl hk hT
  obtain ⟨x, rfl⟩ := len1 (show ks.length = 1 from hl)
  have gx := (hk 0 x rfl).1
  have vx : x.isVal = _ := (Option.some.inj (hk 0 x rfl).2).symm
  rw [c]
  refine (join_fst h a b N cap x gx kp _ w hc0 c hN hv).mono fun e w' hp => joi ?_ hp
  cases x with
  | choice u v => exact (lit (good_choice gx).1).symm
  | _ => rfl
 by_cases c : h.toList = [115, 110, 100]
 ·rw [c] at hl hk hT
  obtain ⟨x, rfl⟩ := len1 (show ks.length = 1 from hl)
  have gx := (hk 0 x rfl).1
  have vx : x.isVal = _ := (Option.some.inj (hk 0 x rfl).2).symm
  rw [c]
  refine (join_snd h a b N cap x gx kp _ w hc0 c hN hv).mono fun e w' hp => joi ?_ hp
  cases x with
  | choice u v => exact (lit (good_choice gx).2).symm
  | _ => rfl
 by_cases c : h.toList = [103, 101, 116]
 ·rw [c] at hl hk hT
  obtain ⟨x, rfl⟩ := len1 (show ks.length = 1 from hl)
  have gx := (hk 0 x rfl).1
  have vx : x.isVal = _ := (Option.some.inj (hk 0 x rfl).2).symm
  rw [c]
  refine (join_get h a b N cap x kp _ w hc0 c hN hv).mono fun e w' hp => joi ?_ hp
  exact (lit gx).symm
 by_cases c : h.toList = [112, 117, 116]
 ·rw [c] at hl hk hT
  obtain ⟨x, y, rfl⟩ := len2 (show ks.length = 2 from hl)
  have gx := (hk 0 x rfl).1
  have vx : x.isVal = _ := (Option.some.inj (hk 0 x rfl).2).symm
  have gy := (hk 1 y rfl).1
  have vy : y.isVal = _ := (Option.some.inj (hk 1 y rfl).2).symm
  rw [c]
  refine (join_put h a b N cap x y kp _ w hc0 c hN hv).mono fun e w' hp => joi ?_ hp
  cases x with
  | bit => exact (lit gy).symm
  | _ => rfl
 by_cases c : h.toList = [102, 97, 105, 108]
 ·rw [c] at hl hk hT
  obtain rfl : ks = [] := List.length_eq_zero_iff.1 hl
  rw [c]
  obtain ⟨y, rfl, h2n, v1, v2, q1, q2, hL⟩ := hfail c
  have gy := (hT y rfl).1
  refine (join_fail h a b N cap kp _ w y h2n v1 v2 q1 q2 hL hc0 c hN).mono fun e w' hp => joi ?_ hp
  exact (lit gy).symm
 by_cases c : h.toList = [116, 114, 121]
 ·rw [c] at hl hk hT
  obtain ⟨x, y, rfl⟩ := len2 (show ks.length = 2 from hl)
  have gx := (hk 0 x rfl).1
  have vx : x.isVal = _ := (Option.some.inj (hk 0 x rfl).2).symm
  have gy := (hk 1 y rfl).1
  have vy : y.isVal = _ := (Option.some.inj (hk 1 y rfl).2).symm
  rw [c]
  refine (join_try h a b N cap x y gx kp _ w hc0 c hN hv).mono fun e w' hp => joi ?_ hp
  cases x with
  | ret u =>
   show (if (Ty.ret u).write = y.write then some (Ty.ret u) else none) = limT (if (Ty.ret u).write = y.write then some (Ty.ret u) else none)
   split
   ·exact (lit gx).symm
   ·rfl
  | _ => rfl
 refine absurd ?_ hsh
 unfold shape
 simp only [*, or_self, ite_false]
end Go.Proofs.YtfogjomebcponaaGreatDoor
