/- Shapes of heads: l2Shape of the model. -/
import Derived.Test.YtfogjomebcponaaDoorShapeF
namespace Go.Proofs.YtfogjomebcponaaDoor
open Go.RowKit

set_option maxRecDepth 100000 in
set_option maxHeartbeats 1000000 in
theorem l2Shape_any (s : ByteArray) (w : World) : Calls Tryd.prog 43 #[.string s] w fun e w' => e = .returned (.string (loS (shape s.toList))) ∧ w = w' := by
  cases e0 : s.toList == [112, 97, 105, 114] with
  | true =>
    have hq := hid (show loS (shape s.toList) = loS (shape [112, 97, 105, 114]) by rw [eq_t e0])
    go_enter Tryd.func43, Tryd.ntmps43
    go_wp2
    go_ret
    exact ⟨ret_str (by rw [hq.out]; rfl), rfl⟩
  | false =>
    cases e1 : s.toList == [116, 104, 117, 110, 107] with
    | true =>
      have hq := hid (show loS (shape s.toList) = loS (shape [116, 104, 117, 110, 107]) by rw [eq_t e1])
      go_enter Tryd.func43, Tryd.ntmps43
      go_wp2
      go_ret
      exact ⟨ret_str (by rw [hq.out]; rfl), rfl⟩
    | false =>
      cases e2 : s.toList == [102, 115, 116] with
      | true =>
        have hq := hid (show loS (shape s.toList) = loS (shape [102, 115, 116]) by rw [eq_t e2])
        go_enter Tryd.func43, Tryd.ntmps43
        go_wp2
        go_ret
        exact ⟨ret_str (by rw [hq.out]; rfl), rfl⟩
      | false =>
        cases e3 : s.toList == [115, 110, 100] with
        | true =>
          have hq := hid (show loS (shape s.toList) = loS (shape [115, 110, 100]) by rw [eq_t e3])
          go_enter Tryd.func43, Tryd.ntmps43
          go_wp2
          go_ret
          exact ⟨ret_str (by rw [hq.out]; rfl), rfl⟩
        | false =>
          cases e4 : s.toList == [114, 101, 116, 117, 114, 110] with
          | true =>
            have hq := hid (show loS (shape s.toList) = loS (shape [114, 101, 116, 117, 114, 110]) by rw [eq_t e4])
            go_enter Tryd.func43, Tryd.ntmps43
            go_wp2
            go_ret
            exact ⟨ret_str (by rw [hq.out]; rfl), rfl⟩
          | false =>
            cases e5 : s.toList == [102, 111, 114, 99, 101] with
            | true =>
              have hq := hid (show loS (shape s.toList) = loS (shape [102, 111, 114, 99, 101]) by rw [eq_t e5])
              go_enter Tryd.func43, Tryd.ntmps43
              go_wp2
              go_ret
              exact ⟨ret_str (by rw [hq.out]; rfl), rfl⟩
            | false =>
              cases e6 : s.toList == [116, 111] with
              | true =>
                have hq := hid (show loS (shape s.toList) = loS (shape [116, 111]) by rw [eq_t e6])
                go_enter Tryd.func43, Tryd.ntmps43
                go_wp2
                go_ret
                exact ⟨ret_str (by rw [hq.out]; rfl), rfl⟩
              | false =>
                cases e7 : s.toList == [108, 97, 109] with
                | true =>
                  have hq := hid (show loS (shape s.toList) = loS (shape [108, 97, 109]) by rw [eq_t e7])
                  go_enter Tryd.func43, Tryd.ntmps43
                  go_wp2
                  go_ret
                  exact ⟨ret_str (by rw [hq.out]; rfl), rfl⟩
                | false =>
                  cases e8 : s.toList == [97, 112, 112] with
                  | true =>
                    have hq := hid (show loS (shape s.toList) = loS (shape [97, 112, 112]) by rw [eq_t e8])
                    go_enter Tryd.func43, Tryd.ntmps43
                    go_wp2
                    go_ret
                    exact ⟨ret_str (by rw [hq.out]; rfl), rfl⟩
                  | false =>
                    cases e9 : s.toList == [105, 102] with
                    | true =>
                      have hq := hid (show loS (shape s.toList) = loS (shape [105, 102]) by rw [eq_t e9])
                      go_enter Tryd.func43, Tryd.ntmps43
                      go_wp2
                      go_ret
                      exact ⟨ret_str (by rw [hq.out]; rfl), rfl⟩
                    | false =>
                      cases e10 : s.toList == [115, 112, 108, 105, 116] with
                      | true =>
                        have hq := hid (show loS (shape s.toList) = loS (shape [115, 112, 108, 105, 116]) by rw [eq_t e10])
                        go_enter Tryd.func43, Tryd.ntmps43
                        go_wp2
                        go_ret
                        exact ⟨ret_str (by rw [hq.out]; rfl), rfl⟩
                      | false =>
                        cases e11 : s.toList == [98, 111, 116, 104] with
                        | true =>
                          have hq := hid (show loS (shape s.toList) = loS (shape [98, 111, 116, 104]) by rw [eq_t e11])
                          go_enter Tryd.func43, Tryd.ntmps43
                          go_wp2
                          go_ret
                          exact ⟨ret_str (by rw [hq.out]; rfl), rfl⟩
                        | false =>
                          cases e12 : s.toList == [116, 114, 121] with
                          | true =>
                            have hq := hid (show loS (shape s.toList) = loS (shape [116, 114, 121]) by rw [eq_t e12])
                            go_enter Tryd.func43, Tryd.ntmps43
                            go_wp2
                            go_ret
                            exact ⟨ret_str (by rw [hq.out]; rfl), rfl⟩
                          | false =>
                            cases e13 : s.toList == [103, 101, 116] with
                            | true =>
                              have hq := hid (show loS (shape s.toList) = loS (shape [103, 101, 116]) by rw [eq_t e13])
                              go_enter Tryd.func43, Tryd.ntmps43
                              go_wp2
                              go_ret
                              exact ⟨ret_str (by rw [hq.out]; rfl), rfl⟩
                            | false =>
                              cases e14 : s.toList == [112, 117, 116] with
                              | true =>
                                have hq := hid (show loS (shape s.toList) = loS (shape [112, 117, 116]) by rw [eq_t e14])
                                go_enter Tryd.func43, Tryd.ntmps43
                                go_wp2
                                go_ret
                                exact ⟨ret_str (by rw [hq.out]; rfl), rfl⟩
                              | false =>
                                cases e15 : s.toList == [102, 97, 105, 108] with
                                | true =>
                                  have hq := hid (show loS (shape s.toList) = loS (shape [102, 97, 105, 108]) by rw [eq_t e15])
                                  go_enter Tryd.func43, Tryd.ntmps43
                                  go_wp2
                                  go_ret
                                  exact ⟨ret_str (by rw [hq.out]; rfl), rfl⟩
                                | false =>
                                  have hq := hid (shape_other e0 e1 e2 e3 e4 e5 e6 e7 e8 e9 e10 e11 e12 e13 e14 e15)
                                  go_enter Tryd.func43, Tryd.ntmps43
                                  go_wp2
                                  go_ret
                                  exact ⟨ret_str (by rw [hq.out]; rfl), rfl⟩
end Go.Proofs.YtfogjomebcponaaDoor
