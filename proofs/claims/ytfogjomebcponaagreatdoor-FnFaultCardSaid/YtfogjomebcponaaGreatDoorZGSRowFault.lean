/- Merged: RowFault. -/
import Derived.Test.YtfogjomebcponaaGreatDoorTie
import Derived.Test.YtfogjomebcponaaGreatDoorCards
import Derived.OpenShut
import Derived.ShutString
import Derived.Test.YtfogjomebcponaaGreatDoorZGSLtFault
import Derived.Test.YtfogjomebcponaaGreatDoorZGSOpenB
import Derived.Test.YtfogjomebcponaaGreatDoorFacA
import Derived.Test.YtfogjomebcponaaGreatDoorFacB
import Derived.Test.YtfogjomebcponaaGreatDoorFacFaultC
import Derived.Test.YtfogjomebcponaaGreatDoorFacFaultD
namespace Go.Proofs.YtfogjomebcponaaGreatDoor.fnFault
open Go.ChangeShapes Go.WideShapes Go.ChangeAt Go.RowKit
open Go.ChangeMaps (open_string shut_string)
set_option maxRecDepth 100000
theorem own : ownKnob Tryz.prog.godebug = none := by kernel_rfl
theorem laidOut : laidOutB Tryz.prog = true := by kernel_rfl
theorem cellsU8 : Tryz.prog.cellsOf 5 = 1 := by kernel_rfl
theorem lifted (os : Os) (started : os.Started) (H : Type) (enc : TypeId × Value → H) :
    ReturnsInHanded {} Tryz.checked os 6 .any (fun w args => (Rows.fnFaultSpec.pre enc Tryz.prog Tryz.f6 [] false w args ∧ laidMetH Tryz.prog Rows.fnFaultRow.laid w) ∧ sizedMet enc Tryz.prog Tryz.f6 (OpenSpec.ofChange Rows.fnFaultSpec) false w args) (Rows.fnFaultSpec.post enc Tryz.prog Tryz.f6 false true false false) := by
 refine returnsInHanded_of_change_and (C := Tryz.checked) (X := fun w _ => laidMetH Tryz.prog Rows.fnFaultRow.laid w) (fun _ _ _ hh h => h.of_heap hh) own started (by kernel_rfl) Tryz.func6
  (ChangeSpec.witness_shaped (enc := enc) (C := Tryz.checked) (os := os) (X := fun w _ => laidMetH Tryz.prog Rows.fnFaultRow.laid w) false (World.laidAll Tryz.prog os Rows.fnFaultRow.laid) #[.slice none 0 0] 8 (World.laidAll_os _ _ _)
    (World.shaped_of_ZipB (by kernel_rfl) (by kernel_rfl)) (by kernel_rfl) (by kernel_rfl) (by kernel_rfl)
    (by rw [MakeChecks.laidMetH_plain _ _ _ (by kernel_rfl)]; exact laidMet_laidAll _ (by kernel_rfl) (by kernel_rfl))) ?_
 intro W base args ds gs before hval0 hW _ _ _ _
 have hval : ∀ (j : Nat) t v, Tryz.f6.params[j]? = some t → args[j]? = some v → Value.okWide Tryz.prog W .any base t v := hval0
 have hW' := hW
 obtain ⟨p, q, hA0, hV, rfl, _, _⟩ := hW
 have hA : DataW.TrodAll enc Tryz.prog W 0 (fun _ => true) true Tryz.f6.params.toList args.toList ds p := hA0
 rw [Tryz.params6] at hA hval
 obtain ⟨v0, vs0, d0, ds0, p0, q0, hargs, rfl, rfl, h0, r0⟩ := trodAll_cons hA
 obtain ⟨rfl, rfl, rfl⟩ := trodAll_nil r0
 obtain rfl : args = #[v0] := by cases args; simp_all
 obtain ⟨rfl, rfl⟩ := trodVars_none hV
 obtain ⟨b0, n0, c0, rfl⟩ := okWide_slice Tryz.underlying31 (hval 0 31 v0 rfl rfl)
 have h0k := h0
 obtain ⟨fuel0, hf0⟩ := h0
 clear hA0 hval0
 simp only [List.append_nil] at hW'
 have hlt0 : ∀ y ∈ p0, y.block < W.heap.size := fun y hy => by simpa using hW'.lt y (by simp [hy])
 have harg0 : ∀ W' : World, Below W.heap.size W W' → DataW.Trod enc Tryz.prog W' 0 (fun b => decide (b < W.heap.size)) true 31 (.slice b0 n0 c0) d0 p0 :=
  fun W' hn => Below.trod laidOut (by kernel_rfl) (of_decide_eq_true (by kernel_rfl)) h0k hn hlt0
 obtain ⟨bs0, hbn0, hbm0, hbc0, _, hbv0, hbz0, hbp0⟩ := bytes_open (p := b0) (n := n0) (c := c0) Tryz.underlying31 Tryz.underlying5 cellsU8 hf0 (by simp [Value.cells])
 refine (lawFaultD (w := W) hbn0 hbm0 hbz0 hbp0 hbv0 hbc0).mono fun e W' ⟨he, hb⟩ => ?_
 subst he
 exact ⟨_, rfl, _, _, _, [], _, [], hW', (trodAll_cons_mk (shut_bool Tryz.underlying4 _) trodAll_mk0), (trodAll_cons_mk (harg0 _ hb) trodAll_mk0), rfl, hb.frame _, fun h => by cases h⟩
theorem closed : joinedFacts Tryz.pinned.checked.prog 6 Tryz.f6 Rows.fnFaultSpec Rows.fnFaultRow = true := by
 unfold joinedFacts
 rw [fac_may, fnFault_laid, fnFault_rowed, fnFault_recurses, fnFault_unfollowed, fnFault_inPlace, fnFault_named, fnFault_keys, fnFault_heard]
 kernel_rfl
theorem proved : Rows.FnFaultSaid :=
 OpenClaim.holds_of_wide 6 Tryz.f6 rfl rfl rfl rfl rfl rfl rfl ⟨rfl, rfl, rfl, rfl, rfl⟩ rfl rfl rfl rfl rfl fnFault_at Tryz.func6 closed
  (of_decide_eq_true (by kernel_rfl)) (by unfold Func.isWrapper; rw [if_neg (of_decide_eq_false (by kernel_rfl))]; exact ⟨rfl, rfl⟩)
  (fun os started H enc _ => lifted os started H enc)
theorem card : Rows.FnFaultCardSaid :=
 Claim7.holds_tied_plain_at .later [] [.data, .pinned] true (true, "093e9ad6b2bdf0502f96ef6b9fde3ad4d09c3c7e2f80e9508681bedb056a06b4") true
  proved (fun _ h => by cases h) (by kernel_rfl) (fun _ h => by cases h) fnFault_row_tie rfl ⟨rfl, rfl⟩ fac_main rfl
  (fun f fn hf hfn => by
    obtain rfl : f = 6 := Option.some.inj (fnFault_at.symm.trans hf) |>.symm
    obtain rfl : fn = Tryz.f6 := (Option.some.inj (Tryz.func6.symm.trans hfn)).symm
    exact ⟨fnFault_looks.symm, fun j t ht => by
     rw [Tryz.params6] at ht
     have hm : t ∈ [31] := by simpa using Array.mem_of_getElem? ht
     have hall : ([31].all fun u => !Tryz.prog.wantsStandIn u) = true := by kernel_rfl
     exact (show Tryz.prog.wantsStandIn t = false by simpa using List.all_eq_true.1 hall t hm)⟩)
  fnFault_goes
#print axioms card
end Go.Proofs.YtfogjomebcponaaGreatDoor.fnFault
