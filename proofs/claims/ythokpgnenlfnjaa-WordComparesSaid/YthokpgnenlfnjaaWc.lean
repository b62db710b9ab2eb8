/-
  WordCompares, walked.
-/
import Derived.Test.YthokpgnenlfnjaaHx
import Derived.Test.YthokpgnenlfnjaaZb
import Derived.Test.YthokpgnenlfnjaaZc
import Derived.Test.YthokpgnenlfnjaaZd
import Derived.Test.YthokpgnenlfnjaaZe
namespace Go.Proofs.Ythokpgnenlfnjaa
open Go.RowKit Go.Sort
set_option maxRecDepth 100000 in
set_option maxHeartbeats 4000000 in
theorem compares_any (xs ys : List Snd) (v u : Value) (w : World) (ha : Wd w v xs) (hb : Wd w u ys) : Gives 5 #[v, u] w (.bool true) := by
  unfold Gives
  have DA := Lib.hid ha; have DB := Lib.hid hb
  obtain ⟨ao, ac, rfl, ka, ma, -⟩ := ha.open
  obtain ⟨bo, bc, rfl, kb, mb, -⟩ := hb.open
  have l1 := maxLen_lt (Nat.le_trans ka ma); have l2 := maxLen_lt (Nat.le_trans kb mb)
  clear ha hb ka ma kb mb
  have hw := Below.refl w.heap.size w
  by_cases h1 : xs.length ≤ 300
  · by_cases h2 : ys.length ≤ 300
    · have HN1 : Hid (xs.length ≤ 1000000000) := Lib.hid (by omega)
      have HN2 : Hid (ys.length ≤ 1000000000) := Lib.hid (by omega)
      obtain ⟨e, he⟩ : ∃ e, decide (xs = ys) = e := ⟨_, rfl⟩
      obtain ⟨o, ho⟩ : ∃ o, ordW xs ys = o := ⟨_, rfl⟩
      obtain ⟨f, hf⟩ : ∃ f, findS xs ys = f := ⟨_, rfl⟩
      obtain ⟨g, hg⟩ : ∃ g, findS ys xs = g := ⟨_, rfl⟩
      obtain ⟨i, hi⟩ : ∃ i, insS xs ys = i := ⟨_, rfl⟩
      obtain ⟨j, hj⟩ : ∃ j, insS ys xs = j := ⟨_, rfl⟩
      obtain ⟨c, hc⟩ : ∃ c, cpre xs ys = c := ⟨_, rfl⟩
      obtain ⟨d, hd⟩ : ∃ d, csuf xs ys = d := ⟨_, rfl⟩
      have HE := Lib.hid he; have HO := Lib.hid ho; have HF := Lib.hid hf; have HG := Lib.hid hg; have HI := Lib.hid hi; have HJ := Lib.hid hj; have HC1 := Lib.hid hc; have HC2 := Lib.hid hd
      clear he ho hf hg hi hj hc hd
      go_enter Try.func5, Try.ntmps5
      go_wp2_with (first | (go_at_call 28; with_reducible refine Gives.then (Gives.eq (wEqual_any _ _ _ _ _ (DA.out.below hw) (DB.out.below hw)) rfl (by rw [HE.out])) ?_; intro w1 hb; have hw := hw.trans (hb.mono hw.size); clear hb) | (go_at_call 23; with_reducible refine Gives.then (Gives.eq (rEqual_any _ _ _ _ _ (DA.out.below hw) (DB.out.below hw)) rfl (by rw [HE.out])) ?_; intro w1 hb; have hw := hw.trans (hb.mono hw.size); clear hb) | (go_at_call 29; with_reducible refine Gives.then (Gives.eq (order_any _ _ _ _ _ (DA.out.below hw) (DB.out.below hw)) rfl (by rw [HO.out])) ?_; intro w1 hb; have hw := hw.trans (hb.mono hw.size); clear hb) | (go_at_call 30; with_reducible refine Gives.then (Gives.eq (rorder_any _ _ _ _ _ (DA.out.below hw) (DB.out.below hw)) rfl (by rw [HO.out])) ?_; intro w1 hb; have hw := hw.trans (hb.mono hw.size); clear hb) | (go_at_call 31; with_reducible refine Gives.then (Gives.eq (find_any _ _ _ _ _ HN1.out (DA.out.below hw) (DB.out.below hw)) rfl (by rw [HF.out])) ?_; intro w1 hb; have hw := hw.trans (hb.mono hw.size); clear hb) | (go_at_call 32; with_reducible refine Gives.then (Gives.eq (rfind_any _ _ _ _ _ HN1.out HN2.out (DA.out.below hw) (DB.out.below hw)) rfl (by rw [HF.out])) ?_; intro w1 hb; have hw := hw.trans (hb.mono hw.size); clear hb) | (go_at_call 31; with_reducible refine Gives.then (Gives.eq (find_any _ _ _ _ _ HN2.out (DB.out.below hw) (DA.out.below hw)) rfl (by rw [HG.out])) ?_; intro w1 hb; have hw := hw.trans (hb.mono hw.size); clear hb) | (go_at_call 32; with_reducible refine Gives.then (Gives.eq (rfind_any _ _ _ _ _ HN2.out HN1.out (DB.out.below hw) (DA.out.below hw)) rfl (by rw [HG.out])) ?_; intro w1 hb; have hw := hw.trans (hb.mono hw.size); clear hb) | (go_at_call 33; with_reducible refine Gives.then (Gives.eq (inside_any _ _ _ _ _ HN1.out (DA.out.below hw) (DB.out.below hw)) rfl (by rw [HI.out])) ?_; intro w1 hb; have hw := hw.trans (hb.mono hw.size); clear hb) | (go_at_call 34; with_reducible refine Gives.then (Gives.eq (rinside_any _ _ _ _ _ (DA.out.below hw) (DB.out.below hw)) rfl (by rw [HI.out])) ?_; intro w1 hb; have hw := hw.trans (hb.mono hw.size); clear hb) | (go_at_call 33; with_reducible refine Gives.then (Gives.eq (inside_any _ _ _ _ _ HN2.out (DB.out.below hw) (DA.out.below hw)) rfl (by rw [HJ.out])) ?_; intro w1 hb; have hw := hw.trans (hb.mono hw.size); clear hb) | (go_at_call 34; with_reducible refine Gives.then (Gives.eq (rinside_any _ _ _ _ _ (DB.out.below hw) (DA.out.below hw)) rfl (by rw [HJ.out])) ?_; intro w1 hb; have hw := hw.trans (hb.mono hw.size); clear hb) | (go_at_call 26; with_reducible refine Gives.then (Gives.eq (common_any _ _ _ _ _ HN1.out HN2.out (DA.out.below hw) (DB.out.below hw)) rfl (by rw [HC1.out, HC2.out])) ?_; intro w1 hb; have hw := hw.trans (hb.mono hw.size); clear hb) | (go_at_call 27; with_reducible refine Gives.then (Gives.eq (rcommon_any _ _ _ _ _ (DA.out.below hw) (DB.out.below hw)) rfl (by rw [HC1.out, HC2.out])) ?_; intro w1 hb; have hw := hw.trans (hb.mono hw.size); clear hb) | (go_at_call 15; with_reducible refine Gives.then (works_any _) ?_; intro w1 hb; have hw := hw.trans (hb.mono hw.size); clear hb))
      go_returns
      exact ⟨by first | rfl | (simp; done), hw⟩
    · go_enter Try.func5, Try.ntmps5
      go_wp2_with (go_at_call 15; with_reducible refine Gives.then (works_any _) ?_; intro w1 hb; have hw := hw.trans (hb.mono hw.size); clear hb)
      go_returns
      exact ⟨rfl, hw⟩
  · go_enter Try.func5, Try.ntmps5
    go_wp2_with (go_at_call 15; with_reducible refine Gives.then (works_any _) ?_; intro w1 hb; have hw := hw.trans (hb.mono hw.size); clear hb)
    go_returns
    exact ⟨rfl, hw⟩
end Go.Proofs.Ythokpgnenlfnjaa
