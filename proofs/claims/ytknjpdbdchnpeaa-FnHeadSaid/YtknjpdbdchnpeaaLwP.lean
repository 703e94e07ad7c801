/- Types that are read, and their parts read again: pure facts for the laws of chapter 1. -/
import Derived.Test.YtknjpdbdchnpeaaTreeP
import Derived.Test.YtknjpdbdchnpeaaKidsS
import Derived.Test.YtknjpdbdchnpeaaHeadS
import Derived.Test.YtknjpdbdchnpeaaBytP
namespace Go.Proofs.Ytknjpdbdchnpeaa
open Go.RowKit

theorem lw_good {s : ByteArray} {ty : Ty} (h : readTy s = some ty) : ty.wf = true ∧ ty.atoms ≤ 12 := by
  unfold readTy at h
  split at h
  · rename_i t _
    split at h
    · rename_i hc; exact ⟨ty_wf t ty h, by rw [← ty_size t ty h]; exact hc⟩
    · simp at h
  · simp at h
theorem lw_data (t : Ty) : t.text.data.toList = t.write := rfl
theorem lw_read {t : Ty} (hw : t.wf = true) (h : t.atoms ≤ 12) : readTy t.text = some t := by
  have hp : parse t.text = some t.tree :=
    parse_back (by rw [lw_data, ty_tree_write]) (tree_wk t) (by have := tree_dp t; omega) (by rw [ty_tree_write]; have := ty_write_len t; omega)
  unfold readTy
  rw [hp]
  simp only
  rw [ty_tree_size, if_pos h, tree_ty t hw]
theorem lw_kid {ty k : Ty} (hw : ty.wf = true) (hk : k ∈ ty.kids) : k.wf = true ∧ k.atoms < ty.atoms := by
  cases ty with
  | bit => simp [Ty.kids] at hk
  | pair a b =>
    simp only [Ty.wf, Bool.and_eq_true] at hw
    simp [Ty.kids] at hk
    rcases hk with rfl | rfl
    · exact ⟨hw.1.1.1, by rw [Ty.atoms]; omega⟩
    · exact ⟨hw.1.1.2, by rw [Ty.atoms]; omega⟩
  | thunk c =>
    simp only [Ty.wf, Bool.and_eq_true] at hw
    simp [Ty.kids] at hk
    subst hk
    exact ⟨hw.1, by rw [Ty.atoms]; omega⟩
  | ret a =>
    simp only [Ty.wf, Bool.and_eq_true] at hw
    simp [Ty.kids] at hk
    subst hk
    exact ⟨hw.1, by rw [Ty.atoms]; omega⟩
  | fn a c =>
    simp only [Ty.wf, Bool.and_eq_true] at hw
    simp [Ty.kids] at hk
    rcases hk with rfl | rfl
    · exact ⟨hw.1.1.1, by rw [Ty.atoms]; omega⟩
    · exact ⟨hw.1.1.2, by rw [Ty.atoms]; omega⟩
  | choice a c =>
    simp only [Ty.wf, Bool.and_eq_true] at hw
    simp [Ty.kids] at hk
    rcases hk with rfl | rfl
    · exact ⟨hw.1.1.1, by rw [Ty.atoms]; omega⟩
    · exact ⟨hw.1.1.2, by rw [Ty.atoms]; omega⟩
/-- A part's text is read as the part. -/
theorem lw_kid_read {s : ByteArray} {ty : Ty} (h : readTy s = some ty) {i : Nat} {k : Ty} (hk : ty.kids[i]? = some k) : readTy k.text = some k := by
  obtain ⟨hw, ha⟩ := lw_good h
  have hm := lw_kid hw (List.mem_of_getElem? hk)
  exact lw_read hm.1 (by omega)
theorem lw_size {s : ByteArray} {ty : Ty} (h : readTy s = some ty) {i : Nat} {k : Ty} (hk : ty.kids[i]? = some k) : k.text.size ≤ 60 := by
  obtain ⟨hw, ha⟩ := lw_good h
  have hm := lw_kid hw (List.mem_of_getElem? hk)
  rw [text_size]
  have := ty_write_len k
  omega
theorem lw_kids2 (ty : Ty) : ty.kids.length ≤ 2 := by cases ty <;> simp [Ty.kids]
/-- A text is what its type writes. -/
theorem lw_text {s : ByteArray} {ty : Ty} (h : readTy s = some ty) : s = ty.text := bytes_of_toList (readTy_write h)
/-- What heads and kinds tell, in the spelling of the tests. -/
theorem lw_kinds (ty : Ty) :
    (((⟨#[ty.headB]⟩ : ByteArray).toList == [98]) = true ∧ ((⟨#[ty.headB]⟩ : ByteArray).toList == [42]) = false ∧ ((⟨#[ty.headB]⟩ : ByteArray).toList == [117]) = false ∧ (ty.kindS.toList == [118, 97, 108, 117, 101]) = true ∧ (ty.kindS.toList == [99, 111, 109, 112, 117, 116, 97, 116, 105, 111, 110]) = false ∧ ty.isVal = true) ∨
    (((⟨#[ty.headB]⟩ : ByteArray).toList == [98]) = false ∧ ((⟨#[ty.headB]⟩ : ByteArray).toList == [42]) = true ∧ ((⟨#[ty.headB]⟩ : ByteArray).toList == [117]) = false ∧ (ty.kindS.toList == [118, 97, 108, 117, 101]) = true ∧ (ty.kindS.toList == [99, 111, 109, 112, 117, 116, 97, 116, 105, 111, 110]) = false ∧ ty.isVal = true) ∨
    (((⟨#[ty.headB]⟩ : ByteArray).toList == [98]) = false ∧ ((⟨#[ty.headB]⟩ : ByteArray).toList == [42]) = false ∧ ((⟨#[ty.headB]⟩ : ByteArray).toList == [117]) = true ∧ (ty.kindS.toList == [118, 97, 108, 117, 101]) = true ∧ (ty.kindS.toList == [99, 111, 109, 112, 117, 116, 97, 116, 105, 111, 110]) = false ∧ ty.isVal = true) ∨
    (((⟨#[ty.headB]⟩ : ByteArray).toList == [98]) = false ∧ ((⟨#[ty.headB]⟩ : ByteArray).toList == [42]) = false ∧ ((⟨#[ty.headB]⟩ : ByteArray).toList == [117]) = false ∧ (ty.kindS.toList == [118, 97, 108, 117, 101]) = false ∧ (ty.kindS.toList == [99, 111, 109, 112, 117, 116, 97, 116, 105, 111, 110]) = true ∧ ty.isVal = false) := by
  rw [kindS_toList, Go.ByteArray.toList_eq]
  cases ty with
  | bit => left; exact ⟨rfl, rfl, rfl, rfl, rfl, rfl⟩
  | pair a b => right; left; exact ⟨rfl, rfl, rfl, rfl, rfl, rfl⟩
  | thunk c => right; right; left; exact ⟨rfl, rfl, rfl, rfl, rfl, rfl⟩
  | ret a => right; right; right; exact ⟨rfl, rfl, rfl, rfl, rfl, rfl⟩
  | fn a c => right; right; right; exact ⟨rfl, rfl, rfl, rfl, rfl, rfl⟩
  | choice a c => right; right; right; exact ⟨rfl, rfl, rfl, rfl, rfl, rfl⟩
/-- What TypeKids leaves, of a type that is read: a row of its parts' texts. -/
def KdPost (L : List Ty) (n : Nat) (d : Bool) (w : World) (e : Ending) (w' : World) : Prop :=
  ∃ q c, e = .returned (.tuple #[.slice q n c, .bool d]) ∧ Vals w' q ((L.map Ty.text).map .string) ∧ (∀ b o, q = some ⟨b, o, none⟩ → b < w'.heap.size) ∧ Below w.heap.size w w'
theorem lw_under {w : World} {base : Nat} {e : TypeId} {q : Option Addr} {n c : Nat} {xs : List Value} (h : w.ownsRow base e 1 (.slice q n c) n xs) : ∀ b o, q = some ⟨b, o, none⟩ → b < w.heap.size := by
  intro b o e
  rcases h.2 with ⟨hv, _⟩ | ⟨g, cap, cur, hv, hbg, hg, _⟩
  · have : q = none := by simp at hv; exact hv.1
    rw [this] at e; cases e
  · obtain ⟨rfl, _⟩ : q = some ⟨g, 0, none⟩ ∧ c = cap := by simp at hv; exact hv
    simp at e
    have := lt_of_block hg
    omega
theorem lw_vals {w w' : World} {q : Option Addr} {l : List Value} {B : Nat} (h : Vals w q l) (hb : Below B w w') (hq : ∀ b o, q = some ⟨b, o, none⟩ → b < B) : Vals w' q l := fun i v hv =>
  let ⟨b, o, hp, hc⟩ := h i v hv
  ⟨b, o, hp, (hb.cell (p := ⟨b, o + i, none⟩) (hq b o hp)).trans hc⟩
theorem lw_kids_post {o : Option Ty} {w w' : World} {e : Ending} (h : KidsPost o w e w') : KdPost (kidsO o) (kidsO o).length o.isSome w e w' := by
  obtain ⟨⟨q, c, rfl, ho⟩, hb⟩ := h
  refine ⟨q, c, rfl, ?_, lw_under ho, hb⟩
  have := vals_any ho
  rw [List.map_map]; exact this
theorem lw_get {L : List Ty} {i : Nat} {k : Ty} (h : L[i]? = some k) : ((L.map Ty.text).map Value.string)[i]? = some (.string k.text) := by simp [h]
end Go.Proofs.Ytknjpdbdchnpeaa
