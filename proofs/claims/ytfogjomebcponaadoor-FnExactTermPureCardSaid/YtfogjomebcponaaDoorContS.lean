/- slices.Contains at a list of texts. -/
import Derived.Test.YtfogjomebcponaaDoorNameP
import Derived.Test.YtfogjomebcponaaDoorBytP
import Derived.Test.YtfogjomebcponaaDoorSvP
import Derived.Test.YtfogjomebcponaaDoorShelf
namespace Go.Proofs.YtfogjomebcponaaDoor
open Go.RowKit

theorem contains_hasB (l : List ByteArray) (x : ByteArray) : Lib.containsS l x = hasB l x.toList := by
  rw [Bool.eq_iff_iff, Lib.containsS_iff]
  unfold hasB
  rw [List.contains_iff_mem, List.mem_map]
  constructor
  · exact fun h => ⟨x, h, rfl⟩
  · rintro ⟨y, hy, he⟩
    have : y = x := by
      have h1 := bytes_of_toList (a := y) (l := x.toList) he
      have h2 := bytes_of_toList (a := x) (l := x.toList) rfl
      rw [h1, ← h2]
    rw [← this]; exact hy
theorem contains_sv (p : Option Addr) (n c : Nat) (l : List ByteArray) (x : ByteArray) (w : World) (h : SV w p n c l) (hn : n ≤ 1000000) :
    Calls Tryd.prog 71 #[.slice p n c, .string x] w fun e w' => e = .returned (.bool (hasB l x.toList)) ∧ w = w' := by
  obtain ⟨hl, hnone, hc⟩ := h
  by_cases h0 : n = 0
  · subst h0
    have hl0 : l = [] := List.eq_nil_of_length_eq_zero hl
    subst hl0
    exact (Tryd.slices_Contains_string_empty p c x w).mono fun e w' h => ⟨h.1, h.2.symm⟩
  · obtain ⟨y, hy⟩ : ∃ y, l[0]? = some y := ⟨_, List.getElem?_eq_getElem (by omega)⟩
    obtain ⟨g, rfl, _⟩ := hc 0 y hy
    have := Tryd.slices_Contains_string g 0 n c l x w (by omega) (by omega) (fun j hj => by
      have hj2 : l[j]? = some (l.getD j ByteArray.empty) := by rw [List.getD_eq_getElem?_getD, List.getElem?_eq_getElem hj]; rfl
      obtain ⟨g', hp, hc'⟩ := hc j _ hj2
      obtain rfl : g = g' := by simpa using hp
      rw [Nat.zero_add]; exact hc')
    rw [List.take_of_length_le (by omega), contains_hasB] at this
    exact this.mono fun e w' h => ⟨h.1, h.2.symm⟩

end Go.Proofs.YtfogjomebcponaaDoor
