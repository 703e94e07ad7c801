/- Merged: DmM. -/
import Derived.Test.YthpcmglnooemaaaGreatDoorWASDrwM
import Derived.Test.YthpcmglnooemaaaGreatDoorWA15
namespace Go.Proofs.YthpcmglnooemaaaGreatDoor
open Go.RowKit

/-- A draw of a term of a type with a depth. -/
def TermDraw (f : Nat) (b d : Nat) (want : ByteArray) (S : Nat) : Prop :=
  ∀ (r : Nat) (W : World) (p q : Option Addr) (n c e : Nat) (ns ts : List ByteArray) (i : Int), Scp W p q n c e ns ts → Rd W b r → r + S ≤ 400000000 → n + 2 * d ≤ 18 → i = (d : Int) →
    Calls Tryz.prog f #[.pointer (some ⟨b, 0, none⟩), .agg #[.slice p n c, .slice q n e], .string want, .int .i64 i] W (Drawn b (r + S) S W)
theorem Drawn.le {b q q' S S' : Nat} {w w' : World} {e : Ending} (h : Drawn b q S w e w') (hq : q ≤ q') (hS : S ≤ S') : Drawn b q' S' w e w' := by
  obtain ⟨s, he, hs, hr, hp⟩ := h
  exact ⟨s, he, by omega, hr.le hq, hp⟩
theorem TermDraw.le {f b d : Nat} {want : ByteArray} {S S' : Nat} (h : TermDraw f b d want S) (hS : S ≤ S') : TermDraw f b d want S' := by
  intro r W p q n c e ns ts i hsc hr hq hn hi
  exact (h r W p q n c e ns ts i hsc hr (by omega) hn hi).mono fun _ _ h => h.le (by omega) hS
/-- What is known of draws of a depth. -/
def DrawsM (b d : Nat) : Prop := ∀ want : ByteArray, WantC want → mC d want.size ≤ 400000000 → TermDraw 83 b d want (mC d want.size)
def DrawsV (b d : Nat) : Prop := ∀ want : ByteArray, mV d want.size ≤ 400000000 → TermDraw 93 b d want (mV d want.size)
theorem mC_eq (d n : Nat) : mC d n = mA d * n + 30 * mA d := by rw [mC, Nat.mul_add, Nat.mul_comm (mA d) 30]
theorem mV_eq (d n : Nat) : mV d n = 6 * (mA d * n) + 6 * mA d + 60 * n + 60 := by
  rw [mV, Nat.add_mul, Nat.mul_add, Nat.mul_add, Nat.mul_assoc]; omega
theorem mC_succ (d n : Nat) : mC (d + 1) n = 6 * (mA d * n) + 180 * mA d + 200 * n + 6000 := by
  rw [mC, mA, Nat.add_mul, Nat.mul_add, Nat.mul_add, Nat.mul_assoc]; omega
theorem bsize_app (a b : ByteArray) : (a ++ b).size = a.size + b.size := ByteArray.size_append
/-- The draws of parts, by the size of the type that is wanted. -/
structure Parts (b d : Nat) (want : ByteArray) (P A : Nat) : Prop where
  K : ∀ kind : ByteArray, kind.size ≤ 23 → TermDraw 83 b d (({ data := #[40, 102, 32] } : ByteArray) ++ kind ++ ({ data := #[41] } : ByteArray)) (57 * A)
  W : TermDraw 83 b d want (P + 30 * A)
  B : TermDraw 83 b d (({ data := #[40, 62, 32, 98, 32] } : ByteArray) ++ want ++ ({ data := #[41] } : ByteArray)) (P + 36 * A)
  C : TermDraw 83 b d (({ data := #[40, 38, 32] } : ByteArray) ++ want ++ ({ data := #[32] } : ByteArray) ++ want ++ ({ data := #[41] } : ByteArray)) (2 * P + 35 * A)
  VB : TermDraw 93 b d ({ data := #[98] } : ByteArray) (12 * A + 120)
  VP : TermDraw 93 b d ({ data := #[40, 42, 32, 98, 32, 98, 41] } : ByteArray) (48 * A + 480)
theorem parts_of {b d : Nat} {want : ByteArray} (hM : DrawsM b d) (hV : DrawsV b d) (hw : WantC want) (hS : mC (d + 1) want.size ≤ 400000000) : Parts b d want (mA d * want.size) (mA d) := by
  rw [mC_succ] at hS
  have z : ∀ l : Array UInt8, (⟨l⟩ : ByteArray).size = l.size := fun _ => rfl
  refine ⟨?_, ?_, ?_, ?_, ?_, ?_⟩
  · intro kind hk
    have hz : (({ data := #[40, 102, 32] } : ByteArray) ++ kind ++ ({ data := #[41] } : ByteArray)).size = kind.size + 4 := by rw [bsize_app, bsize_app]; show 3 + kind.size + 1 = _; omega
    have hle : mA d * (kind.size + 4) ≤ mA d * 27 := Nat.mul_le_mul_left _ (by omega)
    have h := hM _ (show WantC (({ data := #[40, 102, 32] } : ByteArray) ++ kind ++ ({ data := #[41] } : ByteArray)) from by rw [ByteArray.append_assoc]; exact wantC_app 102 [32] _ (by decide) (by decide) rfl) (by rw [hz, mC_eq]; omega)
    rw [hz, mC_eq] at h
    exact h.le (by omega)
  · have h := hM want hw (by rw [mC_eq]; omega)
    rw [mC_eq] at h; exact h
  · have hz : (({ data := #[40, 62, 32, 98, 32] } : ByteArray) ++ want ++ ({ data := #[41] } : ByteArray)).size = want.size + 6 := by rw [bsize_app, bsize_app]; show 5 + want.size + 1 = _; omega
    have he : mA d * (want.size + 6) = mA d * want.size + 6 * mA d := by rw [Nat.mul_add]; omega
    have h := hM _ (show WantC (({ data := #[40, 62, 32, 98, 32] } : ByteArray) ++ want ++ ({ data := #[41] } : ByteArray)) from by rw [ByteArray.append_assoc]; exact wantC_app 62 [32, 98, 32] _ (by decide) (by decide) rfl) (by rw [hz, mC_eq, he]; omega)
    rw [hz, mC_eq, he] at h
    exact h.le (by omega)
  · have hz : (({ data := #[40, 38, 32] } : ByteArray) ++ want ++ ({ data := #[32] } : ByteArray) ++ want ++ ({ data := #[41] } : ByteArray)).size = 2 * want.size + 5 := by rw [bsize_app, bsize_app, bsize_app, bsize_app]; show 3 + want.size + 1 + want.size + 1 = _; omega
    have he : mA d * (2 * want.size + 5) = 2 * (mA d * want.size) + 5 * mA d := by rw [Nat.mul_add, Nat.mul_left_comm]; omega
    have h := hM _ (show WantC (({ data := #[40, 38, 32] } : ByteArray) ++ want ++ ({ data := #[32] } : ByteArray) ++ want ++ ({ data := #[41] } : ByteArray)) from by rw [ByteArray.append_assoc, ByteArray.append_assoc, ByteArray.append_assoc]; exact wantC_app 38 [32] _ (by decide) (by decide) rfl) (by rw [hz, mC_eq, he]; omega)
    rw [hz, mC_eq, he] at h
    exact h.le (by omega)
  · have h := hV ({ data := #[98] } : ByteArray) (by rw [mV_eq, z]; simp; omega)
    rw [mV_eq, z] at h
    exact h.le (by simp; omega)
  · have h := hV ({ data := #[40, 42, 32, 98, 32, 98, 41] } : ByteArray) (by rw [mV_eq, z]; simp; omega)
    rw [mV_eq, z] at h
    exact h.le (by simp; omega)
theorem cases14 {x : Int} (h0 : 0 ≤ x) (h1 : x < 14) : x = 0 ∨ x = 1 ∨ x = 2 ∨ x = 3 ∨ x = 4 ∨ x = 5 ∨ x = 6 ∨ x = 7 ∨ x = 8 ∨ x = 9 ∨ x = 10 ∨ x = 11 ∨ x = 12 ∨ x = 13 := by omega
theorem types1 {w : World} {b q : Nat} (hr : Rd w b q) (hq : q + 3 ≤ 1099511627776) : Calls Tryz.prog 94 #[.pointer (some ⟨b, 0, none⟩), .int .i64 1] w (Drawn b (q + 3) 23 w) := (types_any b 1 (by decide)).1 q w hr hq
def fsL : List ByteArray := [⟨#[102, 115, 116]⟩, ⟨#[115, 110, 100]⟩]
theorem fsL_lit (w : World) : SV (w.alloc (.cells #[.string ⟨#[102, 115, 116]⟩, .string ⟨#[115, 110, 100]⟩] 9)) (some ⟨w.heap.size, 0, none⟩) 2 2 fsL := sv_lit w fsL 2 2 9 rfl
theorem fsL_small : ∀ s ∈ fsL, s.size ≤ 3 := by intro s hs; simp only [fsL, List.mem_cons, List.mem_nil_iff, or_false] at hs; rcases hs with rfl | rfl <;> decide
/-- A draw of a text in a world W that keeps what C says. -/
def DrawnC (b r S : Nat) (wB : World) (C : World → Prop) (en : Ending) (w' : World) : Prop :=
  ∃ s : ByteArray, en = .returned (.string s) ∧ s.size ≤ S ∧ Rd w' b r ∧ Px b wB w' ∧ C w'
theorem TermDraw.at {f b d : Nat} {want : ByteArray} {S : Nat} (h : TermDraw f b d want S) {wB : World} {p q : Option Addr} {n c e : Nat} {ns ts : List ByteArray} (hsc : ∀ W, Px b wB W → Scp W p q n c e ns ts) (hn : n + 2 * d ≤ 18) {C : World → Prop} (hC : ∀ W W' r', Rd W b r' → Px b W W' → C W → C W')
    (W : World) (r' : Nat) (i : Int) (hr : Rd W b r') (hx : Px b wB W) (hc : C W) (hl : r' + S ≤ 400000000) (hi : i = (d : Int)) :
    Calls Tryz.prog f #[.pointer (some ⟨b, 0, none⟩), .agg #[.slice p n c, .slice q n e], .string want, .int .i64 i] W (DrawnC b (r' + S) S wB C) :=
  (h r' W p q n c e ns ts i (hsc W hx) hr hl hn hi).mono fun _ w' ⟨s, he, hs, hr2, hp⟩ => ⟨s, he, hs, hr2, hx.trans hp, hC W w' r' hr hp hc⟩
/-- A scope with one name more. -/
def MoreC (b r : Nat) (wB : World) (C : World → Prop) (n : Nat) (ns ts : List ByteArray) (en : Ending) (w' : World) : Prop :=
  ∃ p q c d, en = .returned (.agg #[.slice p (n + 1) c, .slice q (n + 1) d]) ∧ (∀ W, Px b w' W → Scp W p q (n + 1) c d ns ts) ∧ Rd w' b r ∧ Px b wB w' ∧ C w'
theorem more_at {b : Nat} {wB wC : World} {p q : Option Addr} {n c e : Nat} {ns ts : List ByteArray} (hsc : ∀ W, Px b wC W → Scp W p q n c e ns ts) (hn : n ≤ 19) {C : World → Prop} (hC : ∀ W W' r', Rd W b r' → Px b W W' → C W → C W')
    (x k : ByteArray) (hx60 : x.size ≤ 60) (W : World) (r' : Nat) (hr : Rd W b r') (hx : Px b wC W) (hb : Px b wB W) (hc : C W) :
    Calls Tryz.prog 110 #[.agg #[.slice p n c, .slice q n e], .string x, .string k] W (MoreC b r' wB C n (ns ++ [x]) (ts ++ [k])) :=
  (l91More_any (hsc W hx) hn x k hx60).mono fun _ w' ⟨p1, q1, c1, d1, he, hs, hbel⟩ =>
    have hp : Px b W w' := Px.below hbel (Nat.le_refl _)
    have hr2 : Rd w' b r' := hr.below hbel hr.lt (Nat.le_refl _)
    ⟨p1, q1, c1, d1, he, fun _ hx2 => hs.px hr2 hx2, hr2, hb.trans hp, hC W w' r' hr hp hc⟩
/-- The cells that a draw of parts loads: the scope's, and those of parts of the type. -/
def Cl0 (B : Nat) (p q : Option Addr) (n c e : Nat) (W : World) : Prop := W.cell? ⟨B, 0, none⟩ = some (.slice p n c) ∧ W.cell? ⟨B, 1, none⟩ = some (.slice q n e)
def Cl1 (B : Nat) (p q : Option Addr) (n c e g o : Nat) (x : ByteArray) (W : World) : Prop := W.cell? ⟨B, 0, none⟩ = some (.slice p n c) ∧ W.cell? ⟨B, 1, none⟩ = some (.slice q n e) ∧ W.cell? ⟨g, o, none⟩ = some (.string x)
def Cl2 (B : Nat) (p q : Option Addr) (n c e g o : Nat) (x y : ByteArray) (W : World) : Prop := W.cell? ⟨B, 0, none⟩ = some (.slice p n c) ∧ W.cell? ⟨B, 1, none⟩ = some (.slice q n e) ∧ W.cell? ⟨g, o, none⟩ = some (.string x) ∧ W.cell? ⟨g, o + 1, none⟩ = some (.string y)
theorem Cl0.px {b B : Nat} (hB : B ≠ b) {p q : Option Addr} {n c e : Nat} (W W' : World) (r' : Nat) (_ : Rd W b r') (hp : Px b W W') (h : Cl0 B p q n c e W) : Cl0 B p q n c e W' := ⟨hp.cell hB h.1, hp.cell hB h.2⟩
theorem Cl1.px {b B : Nat} (hB : B ≠ b) {p q : Option Addr} {n c e g o : Nat} {x : ByteArray} (W W' : World) (r' : Nat) (hr : Rd W b r') (hp : Px b W W') (h : Cl1 B p q n c e g o x W) : Cl1 B p q n c e g o x W' := ⟨hp.cell hB h.1, hp.cell hB h.2.1, hp.cell (rd_ne1 hr h.2.2) h.2.2⟩
theorem Cl2.px {b B : Nat} (hB : B ≠ b) {p q : Option Addr} {n c e g o : Nat} {x y : ByteArray} (W W' : World) (r' : Nat) (hr : Rd W b r') (hp : Px b W W') (h : Cl2 B p q n c e g o x y W) : Cl2 B p q n c e g o x y W' := ⟨hp.cell hB h.1, hp.cell hB h.2.1, hp.cell (rd_ne1 hr h.2.2.1) h.2.2.1, hp.cell (rd_ne1 hr h.2.2.2) h.2.2.2⟩
theorem px_drewM (b : Nat) (W : World) : Px b W W.drew := Px.below (Below.refl W.heap.size W).drew (Nat.le_refl _)
theorem fsL_lit2 {w : World} {g : Nat} (h : w.heap.size = g) : SV (w.alloc (.cells #[.string ⟨#[102, 115, 116]⟩, .string ⟨#[115, 110, 100]⟩] 9)) (some ⟨g, 0, none⟩) 2 2 fsL := by subst h; exact fsL_lit w
end Go.Proofs.YthpcmglnooemaaaGreatDoor
