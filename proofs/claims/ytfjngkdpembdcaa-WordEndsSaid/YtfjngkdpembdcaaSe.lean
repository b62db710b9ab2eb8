/-
  Sort: its errors.
-/
import Derived.Test.YtfjngkdpembdcaaHg
namespace Go.Proofs.Ytfjngkdpembdcaa
open Go.RowKit Go.Sort
set_option maxHeartbeats 1000000 in
theorem sort_many (l : List (Value × List Snd)) (v : Value) (w : World) (hl : 256 < l.length) (h : Ws w v l) : Calls Try.prog 8 #[v] w fun e w' => e = .returned (.tuple #[.slice none 0 0, .int .i64 12]) ∧ Below w.heap.size w w' := by
  obtain ⟨ao, cap, rfl, -, -, -⟩ := h.open
  clear h
  go_enter Try.func8, Try.ntmps8
  go_wp2_with fail
  go_ret2
  exact ⟨rfl, by go_grown⟩
set_option maxHeartbeats 1000000 in
theorem sort_bad (l : List (Value × List Snd)) (v : Value) (w : World) (hl : l.length ≤ 256) (hc : ¬ cke l = 0) (h : Ws w v l) : Calls Try.prog 8 #[v] w fun e w' => e = .returned (.tuple #[.slice none 0 0, .int .i64 (cke l)]) ∧ Below w.heap.size w w' := by
  have hC := checkEach_any l v w h
  obtain ⟨ao, cap, rfl, -, -, -⟩ := h.open
  generalize cke l = c at *
  have hc1 : (c == 0) = false := by simpa using hc
  have hc2 : (c != 0) = true := by simpa using hc
  have HC := Lib.hid hC
  clear h hC hc
  go_enter Try.func8, Try.ntmps8
  go_wp2_with (go_at_call 24; with_reducible refine Gives.then HC.out ?_; intro w1 hb1)
  go_ret2
  exact ⟨rfl, hb1⟩
end Go.Proofs.Ytfjngkdpembdcaa
