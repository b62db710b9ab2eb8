/-
  Lemmas that the theorem of this claim rests on: 2 texts, one behind the other.
-/
import Derived.Test.YtmobilppakjihaaDoorM17
import Derived.Test.YtmobilppakjihaaDoorM22
set_option linter.unusedSimpArgs false
set_option linter.unusedVariables false
/-
  A pattern is empty at each place between two sounds, or at none; and then at the ends, too.
-/
namespace Go.Proofs.YtmobilppakjihaaDoor
open Go.RowKit Go.Sort
/-- Whether a node is empty between two sounds, by those of the patterns below it. -/
def emN (d : Nd) (es : List Bool) : Bool :=
  if d.kind = 0 then true
  else if d.kind = 1 then false
  else if d.kind = 2 then false
  else if d.kind = 3 then es.all id
  else if d.kind = 4 then es.any id
  else if d.kind = 5 then decide (d.mi.toNat = 0) || es.headD false
  else false
def emF : Fo → List Bool
  | .nil => []
  | .cons d k r => emN d (emF k) :: emF r
def emP (d : Nd) (k : Fo) : Bool := emN d (emF k)
/-- Tables that have a place at itself exactly if the bits say so. -/
def RelI (n a : Nat) : List Tb → List Bool → Prop
  | [], [] => True
  | t :: ts, e :: es => (OkT n t ∧ (mem t a a ↔ e = true)) ∧ RelI n a ts es
  | _, _ => False
/-- Tables that have a place at itself if the bits say so. -/
def RelE (n a : Nat) : List Tb → List Bool → Prop
  | [], [] => True
  | t :: ts, e :: es => (OkT n t ∧ (e = true → mem t a a)) ∧ RelE n a ts es
  | _, _ => False
theorem thn_self {n : Nat} {x y : Tb} (hx : OkT n x) (hy : OkT n y) (a : Nat) : mem (thnT n x y) a a ↔ mem x a a ∧ mem y a a := by
  rw [thn_bit]
  constructor
  · rintro ⟨b, h1, h2, h3⟩
    have h4 := hx a b h2
    have h5 := hy b a h3
    obtain rfl : b = a := by omega
    exact ⟨h2, h3⟩
  · rintro ⟨h1, h2⟩
    exact ⟨a, (hx a a h1).2, h1, h2⟩
theorem pw_self {n : Nat} (hn : n < 64) {x : Tb} (hx : OkT n x) {a : Nat} (ha : a ≤ n) : ∀ k, mem (pwT n x k) a a ↔ k = 0 ∨ mem x a a
  | 0 => by
    show mem (sameT n) a a ↔ _
    rw [same_bit hn]; simp [ha]
  | k + 1 => by
    show mem (thnT n (pwT n x k) x) a a ↔ _
    rw [thn_self (OkT.pw hn hx k) hx, pw_self hn hx ha k]
    constructor
    · rintro ⟨-, h⟩; exact .inr h
    · rintro (h | h)
      · omega
      · exact ⟨.inr h, h⟩
theorem fold_thn_self {n a : Nat} : ∀ (ts : List Tb) (es : List Bool) (x : Tb), OkT n x → RelI n a ts es → (mem (ts.foldl (thnT n) x) a a ↔ mem x a a ∧ es.all id = true)
  | [], [], x, _, _ => by simp
  | t :: ts, e :: es, x, hx, ⟨⟨h1, h2⟩, h3⟩ => by
    rw [List.foldl_cons, fold_thn_self ts es _ (hx.thn h1) h3, thn_self hx h1, h2]
    simp only [List.all_cons, Bool.and_eq_true, id_eq]
    constructor
    · rintro ⟨⟨h4, h5⟩, h6⟩; exact ⟨h4, h5, h6⟩
    · rintro ⟨h4, h5, h6⟩; exact ⟨⟨h4, h5⟩, h6⟩
  | [], _ :: _, _, _, h => h.elim
  | _ :: _, [], _, _, h => h.elim
theorem fold_thn_end {n a : Nat} : ∀ (ts : List Tb) (es : List Bool) (x : Tb), OkT n x → RelE n a ts es → mem x a a → es.all id = true → mem (ts.foldl (thnT n) x) a a
  | [], [], x, _, _, h, _ => h
  | t :: ts, e :: es, x, hx, ⟨⟨h1, h2⟩, h3⟩, h4, h5 => by
    rw [List.foldl_cons]
    simp only [List.all_cons, Bool.and_eq_true, id_eq] at h5
    exact fold_thn_end ts es _ (hx.thn h1) h3 ((thn_self hx h1 a).2 ⟨h4, h2 h5.1⟩) h5.2
  | [], _ :: _, _, _, h, _, _ => h.elim
  | _ :: _, [], _, _, h, _, _ => h.elim
theorem fold_or_self {n a : Nat} : ∀ (ts : List Tb) (es : List Bool) (x : Tb), RelI n a ts es → (mem (ts.foldl orT x) a a ↔ mem x a a ∨ es.any id = true)
  | [], [], x, _ => by simp
  | t :: ts, e :: es, x, ⟨⟨h1, h2⟩, h3⟩ => by
    rw [List.foldl_cons, fold_or_self ts es _ h3, or_bit, h2]
    simp only [List.any_cons, Bool.or_eq_true, id_eq, or_assoc]
  | [], _ :: _, _, h => h.elim
  | _ :: _, [], _, h => h.elim
theorem fold_or_end {n a : Nat} : ∀ (ts : List Tb) (es : List Bool) (x : Tb), RelE n a ts es → (mem x a a ∨ es.any id = true) → mem (ts.foldl orT x) a a
  | [], [], x, _, h => by simpa using h
  | t :: ts, e :: es, x, ⟨⟨h1, h2⟩, h3⟩, h => by
    rw [List.foldl_cons]
    refine fold_or_end ts es _ h3 ?_
    simp only [List.any_cons, Bool.or_eq_true, id_eq] at h
    rcases h with h | h | h
    · exact .inl ((or_bit x t a a).2 (.inl h))
    · exact .inl ((or_bit x t a a).2 (.inr (h2 h)))
    · exact .inr h
  | [], _ :: _, _, h, _ => h.elim
  | _ :: _, [], _, h, _ => h.elim
theorem rep_self {n : Nat} (hn : n ≤ 32) {x : Tb} (hx : OkT n x) {a : Nat} (ha : a ≤ n) {lo : Nat} {hi : Int} (hh : hi = -1 ∨ (lo : Int) ≤ hi) : mem (repT n x lo hi) a a ↔ lo = 0 ∨ mem x a a := by
  rw [rep_bit hn hx hh]
  constructor
  · rintro ⟨k, h1, h2, h3⟩
    rcases (pw_self (by omega) hx ha k).1 h3 with h | h
    · exact .inl (by omega)
    · exact .inr h
  · intro h
    refine ⟨lo, Nat.le_refl _, ?_, (pw_self (by omega) hx ha lo).2 h⟩
    rcases hh with h1 | h1
    · exact .inl h1
    · exact .inr h1
theorem zero_no (a b : Nat) : ¬ mem zeroT a b := by simp [mem, zeroT]
/-- What a valid repetition's numbers are. -/
theorem rep_ok {d : Nd} {m : Nat} (h : ndE d m = 0) (h5 : d.kind = 5) : d.ma = -1 ∨ ((d.mi.toNat : Nat) : Int) ≤ d.ma := by
  obtain ⟨-, -, -, -, -, -, h7⟩ := ndE_ok h
  have := h7 h5
  omega
theorem node_self {ss : List Snd} (hn : ss.length ≤ 32) {a : Nat} (h0 : 0 < a) (h1 : a < ss.length) {d : Nd} {m : Nat} (hd : ndE d m = 0) (ts : List Tb) (es : List Bool) (hr : RelI ss.length a ts es) : mem (tabN ss d ts) a a ↔ emN d es = true := by
  unfold tabN emN
  by_cases k0 : d.kind = 0
  · rw [if_pos k0, if_pos k0, same_bit (by omega)]; simp; omega
  rw [if_neg k0, if_neg k0]
  by_cases k1 : d.kind = 1
  · rw [if_pos k1, if_pos k1]
    simp only [mem, Bool.false_eq_true, iff_false]
    intro hm
    split at hm
    · simp at hm
    · split at hm
      · rw [one_shl (by omega)] at hm
        have := of_decide_eq_true hm
        omega
      · simp at hm
  rw [if_neg k1, if_neg k1]
  by_cases k2 : d.kind = 2
  · rw [if_pos k2, if_pos k2]
    simp only [mem, Bool.false_eq_true, iff_false]
    rw [if_neg (by omega)]
    simp
  rw [if_neg k2, if_neg k2]
  by_cases k3 : d.kind = 3
  · rw [if_pos k3, if_pos k3, fold_thn_self ts es _ (OkT.same (by omega)) hr, same_bit (by omega)]
    constructor
    · rintro ⟨-, h⟩; exact h
    · intro h; exact ⟨⟨rfl, by omega⟩, h⟩
  rw [if_neg k3, if_neg k3]
  by_cases k4 : d.kind = 4
  · rw [if_pos k4, if_pos k4, fold_or_self ts es _ hr]
    constructor
    · rintro (h | h)
      · exact absurd h (zero_no a a)
      · exact h
    · exact .inr
  rw [if_neg k4, if_neg k4]
  by_cases k5 : d.kind = 5
  · rw [if_pos k5, if_pos k5]
    have hx : OkT ss.length (ts.headD zeroT) ∧ (mem (ts.headD zeroT) a a ↔ es.headD false = true) := by
      cases ts with
      | nil => cases es with
        | nil => exact ⟨OkT.zero _, by simp [zero_no]⟩
        | cons e es => exact hr.elim
      | cons t ts => cases es with
        | nil => exact hr.elim
        | cons e es => exact hr.1
    rw [rep_self hn hx.1 (by omega) (rep_ok hd k5), hx.2, Bool.or_eq_true, decide_eq_true_eq]
  · rw [if_neg k5, if_neg k5]
    simp only [mem, Bool.false_eq_true, iff_false]
    rw [if_neg (by omega)]
    simp
theorem node_end {ss : List Snd} (hn : ss.length ≤ 32) {a : Nat} (h1 : a ≤ ss.length) {d : Nd} {m : Nat} (hd : ndE d m = 0) (ts : List Tb) (es : List Bool) (hr : RelE ss.length a ts es) (he : emN d es = true) : mem (tabN ss d ts) a a := by
  unfold tabN
  unfold emN at he
  by_cases k0 : d.kind = 0
  · rw [if_pos k0, same_bit (by omega)]; exact ⟨rfl, h1⟩
  rw [if_neg k0] at he ⊢
  by_cases k1 : d.kind = 1
  · rw [if_pos k1] at he; cases he
  rw [if_neg k1] at he ⊢
  by_cases k2 : d.kind = 2
  · rw [if_pos k2] at he; cases he
  rw [if_neg k2] at he ⊢
  by_cases k3 : d.kind = 3
  · rw [if_pos k3] at he ⊢
    exact fold_thn_end ts es _ (OkT.same (by omega)) hr ((same_bit (by omega) a a).2 ⟨rfl, h1⟩) he
  rw [if_neg k3] at he ⊢
  by_cases k4 : d.kind = 4
  · rw [if_pos k4] at he ⊢
    exact fold_or_end ts es _ hr (.inr he)
  rw [if_neg k4] at he ⊢
  by_cases k5 : d.kind = 5
  · rw [if_pos k5] at he ⊢
    have hx : OkT ss.length (ts.headD zeroT) ∧ (es.headD false = true → mem (ts.headD zeroT) a a) := by
      cases ts with
      | nil => cases es with
        | nil => exact ⟨OkT.zero _, by simp⟩
        | cons e es => exact hr.elim
      | cons t ts => cases es with
        | nil => exact hr.elim
        | cons e es => exact hr.1
    rw [Bool.or_eq_true, decide_eq_true_eq] at he
    rw [rep_self hn hx.1 h1 (rep_ok hd k5)]
    exact he.imp id hx.2
  · rw [if_neg k5] at he; cases he
theorem forest_self {ss : List Snd} (hn : ss.length ≤ 32) {a : Nat} (h0 : 0 < a) (h1 : a < ss.length) : ∀ f : Fo, f.good → RelI ss.length a (tabF ss f) (emF f)
  | .nil, _ => trivial
  | .cons d k r, ⟨h2, h3, h4⟩ => ⟨⟨OkT.pat hn d k, node_self hn h0 h1 h2 _ _ (forest_self hn h0 h1 k h3)⟩, forest_self hn h0 h1 r h4⟩
theorem forest_end {ss : List Snd} (hn : ss.length ≤ 32) {a : Nat} (h1 : a ≤ ss.length) : ∀ f : Fo, f.good → RelE ss.length a (tabF ss f) (emF f)
  | .nil, _ => trivial
  | .cons d k r, ⟨h2, h3, h4⟩ => ⟨⟨OkT.pat hn d k, node_end hn h1 h2 _ _ (forest_end hn h1 k h3)⟩, forest_end hn h1 r h4⟩
theorem em_eq {d : Nd} {k : Fo} {ss : List Snd} (hE : mtE d k ss = 0) : emB d k = emP d k := by
  obtain ⟨h1, h2, -⟩ := pkE_good (node_ok hE).1
  have hz : mtE d k z2 = 0 := by
    unfold mtE
    rw [if_pos (node_ok hE).1]
    decide
  have := node_self (ss := z2) (a := 1) (by decide) (by decide) (by decide) h1 _ _ (forest_self (ss := z2) (by decide) (by decide) (by decide) k h2)
  unfold emB
  rw [hz, decide_eq_true rfl, Bool.true_and]
  exact Bool.eq_iff_iff.2 this
/-- Between two sounds a pattern matches nothing exactly if it is empty. -/
theorem em_self {d : Nd} {k : Fo} {ss : List Snd} (hE : mtE d k ss = 0) {a : Nat} (h0 : 0 < a) (h1 : a < ss.length) : (tabP ss d k a).getLsbD a = emB d k := by
  have h32 := chk_len (node_ok hE).2
  obtain ⟨g1, g2, -⟩ := pkE_good (node_ok hE).1
  rw [em_eq hE]
  exact Bool.eq_iff_iff.2 (node_self h32 h0 h1 g1 _ _ (forest_self h32 h0 h1 k g2))
/-- What is empty there is so everywhere. -/
theorem em_end {d : Nd} {k : Fo} {ss : List Snd} (hE : mtE d k ss = 0) {a : Nat} (h1 : a ≤ ss.length) (he : emB d k = true) : (tabP ss d k a).getLsbD a = true := by
  have h32 := chk_len (node_ok hE).2
  obtain ⟨g1, g2, -⟩ := pkE_good (node_ok hE).1
  rw [em_eq hE] at he
  exact node_end h32 h1 g1 _ _ (forest_end h32 h1 k g2) he
end Go.Proofs.YtmobilppakjihaaDoor

/-
  Patterns made of others: two in a row, either of two, and one that is repeated; what they match, and that they are valid.
-/
namespace Go.Proofs.YtmobilppakjihaaDoor
open Go.RowKit Go.Sort
theorem wkL_zero : ∀ (l : List (Nd × Nat)) (s : Nat), (∀ x ∈ l, ndE x.1 x.2 = 0) → s + l.length ≤ 40 → (wkL l s).2 = 0
  | [], _, _, _ => rfl
  | x :: l, s, h, hl => by
    simp only [List.length_cons] at hl
    unfold wkL
    rw [if_neg (by omega), if_pos (h x (by simp))]
    exact wkL_zero l (s + 1) (fun y hy => h y (by simp [hy])) (by omega)
theorem Fo.good_pre : ∀ (f : Fo), f.good → ∀ x ∈ f.pre, ndE x.1 x.2 = 0
  | .nil, _, x, hx => by cases hx
  | .cons d k r, ⟨h1, h2, h3⟩, x, hx => by
    simp only [Fo.pre, List.mem_cons, List.mem_append] at hx
    rcases hx with rfl | hx | hx
    · exact h1
    · exact Fo.good_pre k h2 x hx
    · exact Fo.good_pre r h3 x hx
theorem pkE_of {d : Nd} {k : Fo} (h1 : ndE d k.len = 0) (h2 : k.good) (h3 : k.size < 40) : pkE d k = 0 := by
  refine wkL_zero _ 0 ?_ ?_
  · intro x hx
    rcases List.mem_cons.1 hx with rfl | hx
    · exact h1
    · exact Fo.good_pre k h2 x hx
  · simp only [List.length_cons, Fo.pre_length]; omega
theorem mtE_of {d : Nd} {k : Fo} {ss : List Snd} (h1 : ndE d k.len = 0) (h2 : k.good) (h3 : k.size < 40) (h4 : chk ss = 0) : mtE d k ss = 0 := by
  unfold mtE
  rw [if_pos (pkE_of h1 h2 h3)]; exact h4
theorem szP_lt {k : Fo} {n : Nat} (h : szP k ≤ n) (hn : n < 41) : k.size + 1 ≤ n := by unfold szP at h; omega
theorem szP_le (k : Fo) : 1 ≤ szP k ∧ szP k ≤ 41 := by unfold szP; omega
theorem vd_zero : vd (0#32, 0#32) = true := by decide
theorem nd_seq (n : Nat) (v : Value) : ndE ⟨3, (0#32, 0#32), false, 0, 0, v⟩ n = 0 := by
  have ha : argB ⟨3, (0#32, 0#32), false, 0, 0, v⟩ n = false := by simp [argB]
  unfold ndE
  rw [ha, if_neg (by simp), if_pos vd_zero]
theorem nd_alt (n : Nat) (v : Value) : ndE ⟨4, (0#32, 0#32), false, 0, 0, v⟩ n = 0 := by
  have ha : argB ⟨4, (0#32, 0#32), false, 0, 0, v⟩ n = false := by simp [argB]
  unfold ndE
  rw [ha, if_neg (by simp), if_pos vd_zero]
theorem nd_rep {lo hi : Int} (h1 : 0 ≤ lo) (h2 : lo ≤ 32) (h3 : hi = -1 ∨ lo ≤ hi ∧ hi ≤ 32) (v : Value) : ndE ⟨5, (0#32, 0#32), false, lo, hi, v⟩ 1 = 0 := by
  have ha : argB ⟨5, (0#32, 0#32), false, lo, hi, v⟩ 1 = false := by
    simp [argB]
    omega
  unfold ndE
  rw [ha, if_neg (by simp), if_pos vd_zero]
theorem pt_two {W : World} {d : Nd} {k : Fo} {d2 : Nd} {k2 : Fo} {B : Nat} {d' : Nd} (h : W.heap[B]? = some (.cells #[.int .i64 d.kind, .int .u32 (d.is.1.toNat : Int), .int .u32 (d.is.2.toNat : Int), .bool d.neg, .int .i64 d.mi, .int .i64 d.ma, d.sl, .int .i64 d2.kind, .int .u32 (d2.is.1.toNat : Int), .int .u32 (d2.is.2.toNat : Int), .bool d2.neg, .int .i64 d2.mi, .int .i64 d2.ma, d2.sl] 27))
    (hp : Pt W d k) (hp2 : Pt W d2 k2) (hs : d'.sl = .slice (some ⟨B, 0, none⟩) 2 2) : Pt W d' (.cons d k (.cons d2 k2 .nil)) := by
  refine .inr ⟨B, 0, 2, hs, Nat.le_refl 2, by decide, (Array.getElem?_eq_some_iff.1 h).1, ?_⟩
  exact ⟨cell_block h rfl, cell_block h rfl, cell_block h rfl, cell_block h rfl, cell_block h rfl, cell_block h rfl, cell_block h rfl, hp,
    cell_block h rfl, cell_block h rfl, cell_block h rfl, cell_block h rfl, cell_block h rfl, cell_block h rfl, cell_block h rfl, hp2, trivial⟩
theorem same_thn {n : Nat} (hn : n < 64) {x : Tb} (hx : OkT n x) : thnT n (sameT n) x = x := by
  apply Tb.ext
  intro a b
  rw [thn_bit]
  constructor
  · rintro ⟨c, h1, h2, h3⟩
    obtain ⟨rfl, -⟩ := (same_bit hn a c).1 h2
    exact h3
  · intro h
    have := hx a b h
    exact ⟨a, by omega, (same_bit hn a a).2 ⟨rfl, by omega⟩, h⟩
theorem thn_same {n : Nat} (hn : n < 64) {x : Tb} (hx : OkT n x) : thnT n x (sameT n) = x := by
  apply Tb.ext
  intro a b
  rw [thn_bit]
  constructor
  · rintro ⟨c, h1, h2, h3⟩
    obtain ⟨rfl, -⟩ := (same_bit hn c b).1 h3
    exact h2
  · intro h
    have := hx a b h
    exact ⟨b, by omega, h, (same_bit hn b b).2 ⟨rfl, by omega⟩⟩
theorem thn_assoc {n : Nat} (x y z : Tb) : thnT n (thnT n x y) z = thnT n x (thnT n y z) := by
  apply Tb.ext
  intro a b
  rw [thn_bit, thn_bit]
  constructor
  · rintro ⟨c, h1, h2, h3⟩
    obtain ⟨e, h4, h5, h6⟩ := (thn_bit n x y a c).1 h2
    exact ⟨e, h4, h5, (thn_bit n y z e b).2 ⟨c, h1, h6, h3⟩⟩
  · rintro ⟨c, h1, h2, h3⟩
    obtain ⟨e, h4, h5, h6⟩ := (thn_bit n y z c b).1 h3
    exact ⟨e, h4, (thn_bit n x y a e).2 ⟨c, h1, h2, h5⟩, h6⟩
theorem zero_or (x : Tb) : orT zeroT x = x := by
  funext a
  simp [orT, zeroT]
theorem tab_seq {ss : List Snd} (hn : ss.length ≤ 32) (v : Value) (d1 : Nd) (k1 : Fo) (d2 : Nd) (k2 : Fo) : tabP ss ⟨3, (0#32, 0#32), false, 0, 0, v⟩ (.cons d1 k1 (.cons d2 k2 .nil)) = thnT ss.length (tabP ss d1 k1) (tabP ss d2 k2) := by
  show tabN ss _ [tabP ss d1 k1, tabP ss d2 k2] = _
  unfold tabN
  rw [if_neg (show ¬ (3 : Int) = 0 by decide), if_neg (show ¬ (3 : Int) = 1 by decide), if_neg (show ¬ (3 : Int) = 2 by decide), if_pos rfl]
  simp only [List.foldl_cons, List.foldl_nil]
  rw [same_thn (by omega) (OkT.pat hn d1 k1)]
theorem tab_alt (ss : List Snd) (v : Value) (d1 : Nd) (k1 : Fo) (d2 : Nd) (k2 : Fo) : tabP ss ⟨4, (0#32, 0#32), false, 0, 0, v⟩ (.cons d1 k1 (.cons d2 k2 .nil)) = orT (tabP ss d1 k1) (tabP ss d2 k2) := by
  show tabN ss _ [tabP ss d1 k1, tabP ss d2 k2] = _
  unfold tabN
  rw [if_neg (show ¬ (4 : Int) = 0 by decide), if_neg (show ¬ (4 : Int) = 1 by decide), if_neg (show ¬ (4 : Int) = 2 by decide), if_neg (show ¬ (4 : Int) = 3 by decide), if_pos rfl]
  simp only [List.foldl_cons, List.foldl_nil]
  rw [zero_or]
theorem tab_rep (ss : List Snd) (v : Value) (lo hi : Int) (d : Nd) (k : Fo) : tabP ss ⟨5, (0#32, 0#32), false, lo, hi, v⟩ (.cons d k .nil) = repT ss.length (tabP ss d k) lo.toNat hi := by
  show tabN ss _ [tabP ss d k] = _
  unfold tabN
  rw [if_neg (show ¬ (5 : Int) = 0 by decide), if_neg (show ¬ (5 : Int) = 1 by decide), if_neg (show ¬ (5 : Int) = 2 by decide), if_neg (show ¬ (5 : Int) = 3 by decide), if_neg (show ¬ (5 : Int) = 4 by decide), if_pos rfl]
  rfl
/-- Whether a place from i on, below j, leads through. -/
def thrB (x y : Tb) (i k j : Nat) : Bool := (List.range j).any fun b => decide (i ≤ b) && (x i).getLsbD b && (y b).getLsbD k
theorem thrB_start (x y : Tb) (i k : Nat) : thrB x y i k i = false := by
  unfold thrB
  rw [List.any_eq_false]
  intro b hb
  have : ¬ i ≤ b := by have := List.mem_range.1 hb; omega
  simp [this]
theorem thrB_step (x y : Tb) {i k j : Nat} (h : i ≤ j) : thrB x y i k (j + 1) = (thrB x y i k j || ((x i).getLsbD j && (y j).getLsbD k)) := by
  unfold thrB
  rw [List.range_succ, List.any_append]
  simp [h]
theorem thrB_spec {n : Nat} {x y : Tb} (hx : OkT n x) (hy : OkT n y) {i k j : Nat} (h : k < j) : thrB x y i k j = (thnT n x y i).getLsbD k := by
  apply Bool.eq_iff_iff.2
  unfold thrB
  rw [List.any_eq_true]
  constructor
  · rintro ⟨b, h1, h2⟩
    simp only [Bool.and_eq_true] at h2
    have := hx i b h2.1.2
    exact (thn_bit n x y i k).2 ⟨b, by omega, h2.1.2, h2.2⟩
  · intro hm
    obtain ⟨b, h1, h2, h3⟩ := (thn_bit n x y i k).1 hm
    have h4 := hx i b h2
    have h5 := hy b k h3
    exact ⟨b, List.mem_range.2 (by omega), by simp only [Bool.and_eq_true, decide_eq_true_eq]; exact ⟨⟨h4.1, h2⟩, h3⟩⟩
end Go.Proofs.YtmobilppakjihaaDoor
