/-
  FeatsCosts, for every argument.
-/
import Derived.Test.YtdbbmhefndjedaaDoorQd
namespace Go.Proofs.YtdbbmhefndjedaaDoor
open Go.RowKit Go.Sort
theorem costs_any (p m q n : BitVec 32) (sl : Value) (gap : Int) (zs : List Int) (hm : zs.length ≤ 9223372036854775807) (w : World) (hs : Wts w sl zs) (hT : Tab w) (ht : 0 < w.heap.size) :
    Gives 5 #[sn p.toNat m.toNat, sn q.toNat n.toNat, .agg #[sl, .int .i64 gap]] w (.bool true) := by
  rcases hv : (vld p m && vld q n) with _ | _
  · exact costs_core _ _ _ _ gap 0 14 (costErr (okCosts zs gap)) sl zs w hm hs hT ht (fun W u _ _ _ => dist_badS p m q n u _ hv W) (fun W u _ => rdist_badS p m q n u _ hv W) (fun W u hu => checkCosts_any u gap zs hm W hu) (fun W u hu => rcheck_any u gap zs hm W hu)
  · rcases hk : okCosts zs gap with _ | _
    · exact costs_core _ _ _ _ gap 0 2 (costErr (okCosts zs gap)) sl zs w hm hs hT ht (fun W u hu _ _ => dist_badC p m q n u gap zs hm hv hk W hu) (fun W u hu => rdist_badC p m q n u gap zs hm hv hk W hu) (fun W u hu => checkCosts_any u gap zs hm W hu) (fun W u hu => rcheck_any u gap zs hm W hu)
    · have hl := okCosts_len hk
      exact costs_core _ _ _ _ gap _ 0 (costErr (okCosts zs gap)) sl zs w hm hs hT ht (fun W u hu hTW htW => dist_ok p m q n u gap zs hm hv hk W hu hTW htW)
        (fun W u hu => Gives.eq (rdist_ok p m q n _ u gap zs hv hk rfl W hu) rfl (by rw [sumW_rsum _ zs (by omega)]))
        (fun W u hu => checkCosts_any u gap zs hm W hu) (fun W u hu => rcheck_any u gap zs hm W hu)
end Go.Proofs.YtdbbmhefndjedaaDoor
