/- Shapes of heads: formOf of the program. -/
import Derived.Test.YtfogjomebcponaaDoorTermA
import Derived.Test.YtfogjomebcponaaDoorShelf
import Derived.Shelf.Strings.SlTrimAscii
import Derived.Deep.QuietTactic
import Derived.BigQuiet
namespace Go.Proofs.YtfogjomebcponaaDoor
open Go.RowKit

/-- A shape's signs in the program's letters, and in the model's. -/
def Sg.up : Sg → UInt8
  | .V => 86
  | .M => 77
  | .X => 120
  | .A => 65
  | .C => 67
def Sg.lo : Sg → UInt8
  | .V => 118
  | .M => 109
  | .X => 120
  | .A => 97
  | .C => 99
def upS (l : List Sg) : ByteArray := ⟨(l.map Sg.up).toArray⟩
def loS (l : List Sg) : ByteArray := ⟨(l.map Sg.lo).toArray⟩
theorem shape_pair : shape [112, 97, 105, 114] = [.V, .V] := rfl
theorem shape_thunk : shape [116, 104, 117, 110, 107] = [.M] := rfl
theorem shape_fst : shape [102, 115, 116] = [.M] := rfl
theorem shape_snd : shape [115, 110, 100] = [.M] := rfl
theorem shape_return : shape [114, 101, 116, 117, 114, 110] = [.V] := rfl
theorem shape_force : shape [102, 111, 114, 99, 101] = [.V] := rfl
theorem shape_to : shape [116, 111] = [.M, .X, .M] := rfl
theorem shape_lam : shape [108, 97, 109] = [.X, .A, .M] := rfl
theorem shape_app : shape [97, 112, 112] = [.M, .V] := rfl
theorem shape_if : shape [105, 102] = [.V, .M, .M] := rfl
theorem shape_split : shape [115, 112, 108, 105, 116] = [.V, .X, .X, .M] := rfl
theorem shape_both : shape [98, 111, 116, 104] = [.M, .M] := rfl
theorem shape_try : shape [116, 114, 121] = [.M, .M] := rfl
theorem shape_get : shape [103, 101, 116] = [.X, .M] := rfl
theorem shape_put : shape [112, 117, 116] = [.V, .M] := rfl
theorem shape_fail : shape [102, 97, 105, 108] = [.C] := rfl
theorem shape_other {h : List UInt8} (h0 : (h == [112, 97, 105, 114]) = false) (h1 : (h == [116, 104, 117, 110, 107]) = false) (h2 : (h == [102, 115, 116]) = false) (h3 : (h == [115, 110, 100]) = false) (h4 : (h == [114, 101, 116, 117, 114, 110]) = false) (h5 : (h == [102, 111, 114, 99, 101]) = false) (h6 : (h == [116, 111]) = false) (h7 : (h == [108, 97, 109]) = false) (h8 : (h == [97, 112, 112]) = false) (h9 : (h == [105, 102]) = false) (h10 : (h == [115, 112, 108, 105, 116]) = false) (h11 : (h == [98, 111, 116, 104]) = false) (h12 : (h == [116, 114, 121]) = false) (h13 : (h == [103, 101, 116]) = false) (h14 : (h == [112, 117, 116]) = false) (h15 : (h == [102, 97, 105, 108]) = false) : shape h = [] := by
  unfold shape
  rw [if_neg (by simp only [beq_eq_false_iff_ne, ne_eq] at *; simp [h0])]
  rw [if_neg (by simp only [beq_eq_false_iff_ne, ne_eq] at *; simp [h1, h2, h3])]
  rw [if_neg (by simp only [beq_eq_false_iff_ne, ne_eq] at *; simp [h4, h5])]
  rw [if_neg (by simp only [beq_eq_false_iff_ne, ne_eq] at *; simp [h6])]
  rw [if_neg (by simp only [beq_eq_false_iff_ne, ne_eq] at *; simp [h7])]
  rw [if_neg (by simp only [beq_eq_false_iff_ne, ne_eq] at *; simp [h8])]
  rw [if_neg (by simp only [beq_eq_false_iff_ne, ne_eq] at *; simp [h9])]
  rw [if_neg (by simp only [beq_eq_false_iff_ne, ne_eq] at *; simp [h10])]
  rw [if_neg (by simp only [beq_eq_false_iff_ne, ne_eq] at *; simp [h11, h12])]
  rw [if_neg (by simp only [beq_eq_false_iff_ne, ne_eq] at *; simp [h13])]
  rw [if_neg (by simp only [beq_eq_false_iff_ne, ne_eq] at *; simp [h14])]
  rw [if_neg (by simp only [beq_eq_false_iff_ne, ne_eq] at *; simp [h15])]

set_option maxRecDepth 100000 in
set_option maxHeartbeats 1000000 in
theorem formOf_any (s : ByteArray) (w : World) : Calls Tryd.prog 39 #[.string s] w fun e w' => e = .returned (.string (upS (shape s.toList))) ∧ w = w' := by
  cases e0 : s.toList == [114, 101, 116, 117, 114, 110] with
  | true =>
    have hq := hid (show upS (shape s.toList) = upS (shape [114, 101, 116, 117, 114, 110]) by rw [eq_t e0])
    go_enter Tryd.func39, Tryd.ntmps39
    go_wp2
    go_ret
    exact ⟨ret_str (by rw [hq.out]; rfl), rfl⟩
  | false =>
    cases e1 : s.toList == [102, 111, 114, 99, 101] with
    | true =>
      have hq := hid (show upS (shape s.toList) = upS (shape [102, 111, 114, 99, 101]) by rw [eq_t e1])
      go_enter Tryd.func39, Tryd.ntmps39
      go_wp2
      go_ret
      exact ⟨ret_str (by rw [hq.out]; rfl), rfl⟩
    | false =>
      cases e2 : s.toList == [116, 104, 117, 110, 107] with
      | true =>
        have hq := hid (show upS (shape s.toList) = upS (shape [116, 104, 117, 110, 107]) by rw [eq_t e2])
        go_enter Tryd.func39, Tryd.ntmps39
        go_wp2
        go_ret
        exact ⟨ret_str (by rw [hq.out]; rfl), rfl⟩
      | false =>
        cases e3 : s.toList == [102, 115, 116] with
        | true =>
          have hq := hid (show upS (shape s.toList) = upS (shape [102, 115, 116]) by rw [eq_t e3])
          go_enter Tryd.func39, Tryd.ntmps39
          go_wp2
          go_ret
          exact ⟨ret_str (by rw [hq.out]; rfl), rfl⟩
        | false =>
          cases e4 : s.toList == [115, 110, 100] with
          | true =>
            have hq := hid (show upS (shape s.toList) = upS (shape [115, 110, 100]) by rw [eq_t e4])
            go_enter Tryd.func39, Tryd.ntmps39
            go_wp2
            go_ret
            exact ⟨ret_str (by rw [hq.out]; rfl), rfl⟩
          | false =>
            cases e5 : s.toList == [112, 97, 105, 114] with
            | true =>
              have hq := hid (show upS (shape s.toList) = upS (shape [112, 97, 105, 114]) by rw [eq_t e5])
              go_enter Tryd.func39, Tryd.ntmps39
              go_wp2
              go_ret
              exact ⟨ret_str (by rw [hq.out]; rfl), rfl⟩
            | false =>
              cases e6 : s.toList == [98, 111, 116, 104] with
              | true =>
                have hq := hid (show upS (shape s.toList) = upS (shape [98, 111, 116, 104]) by rw [eq_t e6])
                go_enter Tryd.func39, Tryd.ntmps39
                go_wp2
                go_ret
                exact ⟨ret_str (by rw [hq.out]; rfl), rfl⟩
              | false =>
                cases e7 : s.toList == [116, 114, 121] with
                | true =>
                  have hq := hid (show upS (shape s.toList) = upS (shape [116, 114, 121]) by rw [eq_t e7])
                  go_enter Tryd.func39, Tryd.ntmps39
                  go_wp2
                  go_ret
                  exact ⟨ret_str (by rw [hq.out]; rfl), rfl⟩
                | false =>
                  cases e8 : s.toList == [97, 112, 112] with
                  | true =>
                    have hq := hid (show upS (shape s.toList) = upS (shape [97, 112, 112]) by rw [eq_t e8])
                    go_enter Tryd.func39, Tryd.ntmps39
                    go_wp2
                    go_ret
                    exact ⟨ret_str (by rw [hq.out]; rfl), rfl⟩
                  | false =>
                    cases e9 : s.toList == [112, 117, 116] with
                    | true =>
                      have hq := hid (show upS (shape s.toList) = upS (shape [112, 117, 116]) by rw [eq_t e9])
                      go_enter Tryd.func39, Tryd.ntmps39
                      go_wp2
                      go_ret
                      exact ⟨ret_str (by rw [hq.out]; rfl), rfl⟩
                    | false =>
                      cases e10 : s.toList == [105, 102] with
                      | true =>
                        have hq := hid (show upS (shape s.toList) = upS (shape [105, 102]) by rw [eq_t e10])
                        go_enter Tryd.func39, Tryd.ntmps39
                        go_wp2
                        go_ret
                        exact ⟨ret_str (by rw [hq.out]; rfl), rfl⟩
                      | false =>
                        cases e11 : s.toList == [103, 101, 116] with
                        | true =>
                          have hq := hid (show upS (shape s.toList) = upS (shape [103, 101, 116]) by rw [eq_t e11])
                          go_enter Tryd.func39, Tryd.ntmps39
                          go_wp2
                          go_ret
                          exact ⟨ret_str (by rw [hq.out]; rfl), rfl⟩
                        | false =>
                          cases e12 : s.toList == [116, 111] with
                          | true =>
                            have hq := hid (show upS (shape s.toList) = upS (shape [116, 111]) by rw [eq_t e12])
                            go_enter Tryd.func39, Tryd.ntmps39
                            go_wp2
                            go_ret
                            exact ⟨ret_str (by rw [hq.out]; rfl), rfl⟩
                          | false =>
                            cases e13 : s.toList == [115, 112, 108, 105, 116] with
                            | true =>
                              have hq := hid (show upS (shape s.toList) = upS (shape [115, 112, 108, 105, 116]) by rw [eq_t e13])
                              go_enter Tryd.func39, Tryd.ntmps39
                              go_wp2
                              go_ret
                              exact ⟨ret_str (by rw [hq.out]; rfl), rfl⟩
                            | false =>
                              cases e14 : s.toList == [108, 97, 109] with
                              | true =>
                                have hq := hid (show upS (shape s.toList) = upS (shape [108, 97, 109]) by rw [eq_t e14])
                                go_enter Tryd.func39, Tryd.ntmps39
                                go_wp2
                                go_ret
                                exact ⟨ret_str (by rw [hq.out]; rfl), rfl⟩
                              | false =>
                                cases e15 : s.toList == [102, 97, 105, 108] with
                                | true =>
                                  have hq := hid (show upS (shape s.toList) = upS (shape [102, 97, 105, 108]) by rw [eq_t e15])
                                  go_enter Tryd.func39, Tryd.ntmps39
                                  go_wp2
                                  go_ret
                                  exact ⟨ret_str (by rw [hq.out]; rfl), rfl⟩
                                | false =>
                                  have hq := hid (shape_other e5 e2 e3 e4 e0 e1 e12 e14 e8 e10 e13 e6 e7 e11 e9 e15)
                                  go_enter Tryd.func39, Tryd.ntmps39
                                  go_wp2
                                  go_ret
                                  exact ⟨ret_str (by rw [hq.out]; rfl), rfl⟩
end Go.Proofs.YtfogjomebcponaaDoor
