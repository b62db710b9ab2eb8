/-
  InventoryCopies holds, whatever its arguments are.
-/
import Derived.Test.YtmgikhldkebjbaaM6
import Derived.Test.YtmgikhldkebjbaaZLTb
namespace Go.Proofs.Ytmgikhldkebjbaa.inventoryCopies
open Go.ChangeShapes Go.WideShapes Go.ChangeAt Go.RowKit

set_option maxRecDepth 100000 in
theorem contract (H : Type) (enc : TypeId × Value → H) (W : World) (base : Nat) (args : Array Value) (ds gs : List (DataW H)) (before : List MemPlace)
    (hval : ∀ (j : Nat) t v, Try.f11.params[j]? = some t → args[j]? = some v → Value.okWide Try.prog W .any base t v)
    (hW : DataW.Whole enc Try.prog Try.f11.params.toList Rows.inventoryCopiesSpec.vars false W args.toList ds gs before) :
    Calls Try.prog 11 args W fun e W' => ∃ v, e = .returned v ∧ Rows.inventoryCopiesSpec.post enc Try.prog Try.f11 false true false false W args v W' := by
  have hW' := hW
  obtain ⟨p, q, hA0, hV, rfl, hfz, hnd⟩ := hW
  have hA : DataW.TrodAll enc Try.prog W 0 (fun _ => true) true Try.f11.params.toList args.toList ds p := hA0
  rw [Try.params11] at hA hval
  obtain ⟨v0, vs0, d0, ds0, p0, q0, hargs, rfl, rfl, h0, r0⟩ := trodAll_cons hA
  obtain ⟨v1, vs1, d1, ds1, p1, q1, rfl, rfl, rfl, h1, r1⟩ := trodAll_cons r0
  obtain ⟨v2, vs2, d2, ds2, p2, q2, rfl, rfl, rfl, h2, r2⟩ := trodAll_cons r1
  obtain ⟨rfl, rfl, rfl⟩ := trodAll_nil r2
  obtain rfl : args = #[v0, v1, v2] := by cases args; simp_all
  obtain ⟨rfl, rfl⟩ := trodVars_none hV
  obtain ⟨l0, hn0, hm0⟩ := open_steps (hval 0 _ v0 rfl rfl) h0
  obtain ⟨t1, rfl, -, -, ht1⟩ := Go.ChangeMaps.open_string Try.underlying9 (hval 1 _ v1 rfl rfl) h1
  obtain ⟨a2, b2, rfl⟩ := open_sound (hval 2 _ v2 rfl rfl) h2
  exact law_of_walk (by kernel_rfl) Try.underlying4 rfl (by rw [Try.params11]; intro t ht; simp only [List.mem_cons, List.not_mem_nil, or_false] at ht; rcases ht with rfl | rfl | rfl <;> first | exact (show Try.prog.readableRec 36 = true ∧ 36 < Try.prog.types.size from ⟨by kernel_rfl, of_decide_eq_true (by kernel_rfl)⟩) | exact (show Try.prog.readableRec 39 = true ∧ 39 < Try.prog.types.size from ⟨by kernel_rfl, of_decide_eq_true (by kernel_rfl)⟩) | exact (show Try.prog.readableRec 9 = true ∧ 9 < Try.prog.types.size from ⟨by kernel_rfl, of_decide_eq_true (by kernel_rfl)⟩)) hW' rfl (copies_any l0 v0 t1 (a2, b2) W hm0 ht1 hn0)

/-- A world for the witness, and its arguments. -/
noncomputable def plainW (os : Os) : World := World.holding Try.prog os ⟨#[], #[], []⟩
def wit : Array Value := #[.slice none 0 0, .string ⟨#[]⟩, .agg #[.int .u32 0, .int .u32 0]]
def witD {H : Type} : List (DataW H) := [.nil, .lit (.string []), .agg [.lit (.int .u32 0), .lit (.int .u32 0)]]
theorem reads (os : Os) {H : Type} (enc : TypeId × Value → H) : DataW.whole enc Try.prog ((plainW os).forCall (fun _ _ => 0) ⟨#[], wit, []⟩).memory Try.f11.params.toList Rows.inventoryCopiesSpec.vars false wit.toList 8 = some (witD, [], []) := by kernel_rfl

set_option maxRecDepth 100000 in
theorem lifted (os : Os) (started : os.Started) (H : Type) (enc : TypeId × Value → H) (F : Stop.Interp) :
    ReturnsInHanded {} Try.checked os 11 .any ((OpenSpec.ofChange Rows.inventoryCopiesSpec).preRow enc Try.prog Try.f11 Rows.inventoryCopiesRow.domain false Rows.inventoryCopiesRow.laid) (((OpenSpec.ofChange Rows.inventoryCopiesSpec).at F).post enc Try.prog Try.f11 false true false false) := by
  have hx := reads os enc
  refine returnsInHanded_of_row (C := Try.checked) (s := OpenSpec.ofChange Rows.inventoryCopiesSpec) ownK started (by kernel_rfl) Try.func11
    (witness_row_at (enc := enc) (C := Try.checked) false (plainW os) wit rfl (by kernel_rfl) (by kernel_rfl) (by kernel_rfl)
      (OpenSpec.preRow_of_cond 8 hx (by kernel_rfl) (fun k hk => by cases hk) (by kernel_rfl) (by first | trivial | exact fun _ h => by cases h | exact laidMet_of_run' 8 (by kernel_rfl) (by kernel_rfl)))) ?_
  intro W base args ds gs before hval hW _ _ _ _ _ _
  exact contract H enc W base args ds gs before hval hW

theorem said : Rows.InventoryCopiesSaid :=
  OpenClaim.holds_of_cond 11 Try.f11 rfl rfl rfl rfl rfl rfl rfl ⟨rfl, rfl, rfl, rfl, rfl⟩ rfl rfl rfl rfl rfl (by kernel_rfl) Try.func11 (by kernel_rfl)
    (of_decide_eq_true (by kernel_rfl)) (by unfold Func.isWrapper; first | (rw [if_pos (by decide +kernel)]; kernel_rfl) | (rw [if_neg (by decide +kernel)]; exact ⟨rfl, rfl⟩))
    (fun os started H enc _ F => by rw [OpenClaim.pre_eq_preRow]; exact lifted os started H enc F)
end Go.Proofs.Ytmgikhldkebjbaa.inventoryCopies
