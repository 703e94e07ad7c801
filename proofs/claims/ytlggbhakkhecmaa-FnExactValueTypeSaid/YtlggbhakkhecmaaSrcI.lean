/- The program's source types: sourceTypeOf, limitedSourceType, readSourceType. -/
import Derived.Test.YtlggbhakkhecmaaSrcP
import Derived.Test.YtlggbhakkhecmaaImplB
namespace Go.Proofs.Ytlggbhakkhecmaa
open Go.RowKit

/-- A source type's node in memory. 'S': which blocks it lies in. -/
inductive SIn (w : World) (S : Nat → Prop) : STy → Nat → Prop
  | bit (hd : ByteArray) (hh : hd.toList = [98]) (b : Nat) (hS : S b) (hb : w.heap[b]? = some (.cells #[.string hd, .pointer none, .pointer none] 60 (0, 0))) : SIn w S .bit b
  | fn (hd : ByteArray) (hh : hd.toList = [62]) (x y : STy) (b c d : Nat) (hS : S b) (hb : w.heap[b]? = some (.cells #[.string hd, .pointer (some ⟨c, 0, none⟩), .pointer (some ⟨d, 0, none⟩)] 60 (0, 0))) (hx : SIn w S x c) (hy : SIn w S y d) : SIn w S (.fn x y) b
  | pair (hd : ByteArray) (hh : hd.toList = [42]) (x y : STy) (b c d : Nat) (hS : S b) (hb : w.heap[b]? = some (.cells #[.string hd, .pointer (some ⟨c, 0, none⟩), .pointer (some ⟨d, 0, none⟩)] 60 (0, 0))) (hx : SIn w S x c) (hy : SIn w S y d) : SIn w S (.pair x y) b
theorem SIn.keep {w w' : World} {S S' : Nat → Prop} {s : STy} {b : Nat} (h : SIn w S s b) (hb : ∀ k, S k → k < w.heap.size → w'.heap[k]? = w.heap[k]?) (hS : ∀ k, S k → k < w.heap.size → S' k) : SIn w' S' s b := by
  induction h with
  | bit hd hh b hS0 hb0 => exact .bit hd hh b (hS b hS0 (lt_of_block hb0)) ((hb b hS0 (lt_of_block hb0)).trans hb0)
  | fn hd hh x y b c d hS0 hb0 _ _ ihx ihy => exact .fn hd hh x y b c d (hS b hS0 (lt_of_block hb0)) ((hb b hS0 (lt_of_block hb0)).trans hb0) ihx ihy
  | pair hd hh x y b c d hS0 hb0 _ _ ihx ihy => exact .pair hd hh x y b c d (hS b hS0 (lt_of_block hb0)) ((hb b hS0 (lt_of_block hb0)).trans hb0) ihx ihy
theorem SIn.kept {w w' : World} {S : Nat → Prop} {s : STy} {b : Nat} (h : SIn w S s b) (hk : Kept w w') : SIn w' S s b := h.keep (fun k _ hl => hk k hl) (fun _ h _ => h)
theorem SIn.wide {w : World} {S S' : Nat → Prop} {s : STy} {b : Nat} (h : SIn w S s b) (hS : ∀ k, S k → S' k) : SIn w S' s b := h.keep (fun _ _ _ => rfl) (fun k h _ => hS k h)
theorem cells_of_3 {w : World} {b : Nat} {x0 x1 x2 : Value} {t : TypeId} (h : w.heap[b]? = some (.cells #[x0, x1, x2] t (0, 0))) :
    w.cell? ⟨b, 0, none⟩ = some x0 ∧ w.cell? ⟨b, 1, none⟩ = some x1 ∧ w.cell? ⟨b, 2, none⟩ = some x2 := by simp [World.cell?, h]

/-- What sourceTypeOf leaves. -/
def SPost (o : Option STy) (w : World) (e : Ending) (w' : World) : Prop :=
  Below w.heap.size w w' ∧ match o with
    | some s => ∃ a : Nat, e = .returned (.tuple #[.pointer (some ⟨a, 0, none⟩), .bool true]) ∧ SIn w' (fun k => w.heap.size ≤ k) s a
    | none => e = .returned (.tuple #[.pointer none, .bool false])
theorem SPost.none {w w' : World} {e : Ending} (h : SPost Option.none w e w') : e = .returned (.tuple #[.pointer Option.none, .bool false]) ∧ Below w.heap.size w w' := ⟨h.2, h.1⟩
theorem SPost.some {w w' : World} {e : Ending} {s : STy} (h : SPost (Option.some s) w e w') : ∃ a : Nat, e = .returned (.tuple #[.pointer (Option.some ⟨a, 0, Option.none⟩), .bool true]) ∧ Below w.heap.size w w' ∧ SIn w' (fun k => w.heap.size ≤ k) s a :=
  let ⟨hb, a, he, hn⟩ := h; ⟨a, he, hb, hn⟩
theorem sPost_none {w w' : World} (h : Below w.heap.size w w') : SPost none w (.returned (.tuple #[.pointer none, .bool false])) w' := ⟨h, rfl⟩
theorem sPost_some {w w' : World} {s : STy} {a : Nat} (h : Below w.heap.size w w') (hn : SIn w' (fun k => w.heap.size ≤ k) s a) : SPost (some s) w (.returned (.tuple #[.pointer (some ⟨a, 0, none⟩), .bool true])) w' := ⟨h, a, rfl, hn⟩
/-- A node is put together. -/
theorem sNode {w w1 w2 w3 : World} {x y : STy} {c d : Nat} (hb1 : Below w.heap.size w w1) (hx : SIn w2 (fun k => w1.heap.size ≤ k) x c) (hb2 : Below w1.heap.size w1 w2) (hy : SIn w3 (fun k => w2.heap.size ≤ k) y d) (hb3 : Below w2.heap.size w2 w3) (hd : ByteArray) :
    Below w.heap.size w (w3.alloc (.cells #[.string hd, .pointer (some ⟨c, 0, none⟩), .pointer (some ⟨d, 0, none⟩)] 60)) ∧
    (hd.toList = [62] → SIn (w3.alloc (.cells #[.string hd, .pointer (some ⟨c, 0, none⟩), .pointer (some ⟨d, 0, none⟩)] 60)) (fun k => w.heap.size ≤ k) (.fn x y) w3.heap.size) ∧
    (hd.toList = [42] → SIn (w3.alloc (.cells #[.string hd, .pointer (some ⟨c, 0, none⟩), .pointer (some ⟨d, 0, none⟩)] 60)) (fun k => w.heap.size ≤ k) (.pair x y) w3.heap.size) := by
  have s1 := hb1.size; have s2 := hb2.size; have s3 := hb3.size
  have hx2 : SIn (w3.alloc (.cells #[.string hd, .pointer (some ⟨c, 0, none⟩), .pointer (some ⟨d, 0, none⟩)] 60)) (fun k => w.heap.size ≤ k) x c :=
    (hx.kept ((Kept.of_below hb3 (Nat.le_refl _)).alloc hb3.size _)).wide (fun k hk => by omega)
  have hy2 : SIn (w3.alloc (.cells #[.string hd, .pointer (some ⟨c, 0, none⟩), .pointer (some ⟨d, 0, none⟩)] 60)) (fun k => w.heap.size ≤ k) y d :=
    (hy.kept ((Kept.refl _).alloc (Nat.le_refl _) _)).wide (fun k hk => by omega)
  exact ⟨(hb1.trans ((hb2.trans (hb3.mono hb2.size)).mono hb1.size)).alloc (by omega) _, fun h => .fn hd h x y _ c d (by omega) (heap_alloc_new _ _) hx2 hy2, fun h => .pair hd h x y _ c d (by omega) (heap_alloc_new _ _) hx2 hy2⟩
end Go.Proofs.Ytlggbhakkhecmaa
