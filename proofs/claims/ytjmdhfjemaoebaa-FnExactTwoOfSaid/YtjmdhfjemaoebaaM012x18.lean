import Derived.Test.YtjmdhfjemaoebaaM012x15
import Derived.Test.YtjmdhfjemaoebaaM012x16
/- Sums of places times steps. -/
namespace Go.Proofs.Ytjmdhfjemaoebaa
set_option maxRecDepth 20000
open Go.RowKit Go.Am

def dotTo (ps ss : List Int) : Nat → Int
  | 0 => 0
  | k + 1 => dotTo ps ss k + ps.getD k 0 * ss.getD k 0
theorem mul_in {a b : Int} (ha : 0 ≤ a ∧ a ≤ 3) (hb : 0 ≤ b ∧ b ≤ 64) : 0 ≤ a * b ∧ a * b ≤ 192 := by
  have h1 := Int.mul_le_mul ha.2 hb.2 hb.1 (by omega)
  exact ⟨Int.mul_nonneg ha.1 hb.1, by omega⟩
theorem dot_in {ps ss : List Int} {n : Nat} (hp : ∀ j, j < n → 0 ≤ ps.getD j 0 ∧ ps.getD j 0 ≤ 3) (hs : ∀ j, j < n → 0 ≤ ss.getD j 0 ∧ ss.getD j 0 ≤ 64) : ∀ k, k ≤ n → 0 ≤ dotTo ps ss k ∧ dotTo ps ss k ≤ 192 * k
  | 0, _ => ⟨Int.le_refl 0, Int.le_refl 0⟩
  | k + 1, hk => by
    have ih := dot_in hp hs k (by omega)
    have h1 := mul_in (hp k (by omega)) (hs k (by omega))
    show 0 ≤ dotTo ps ss k + _ ∧ dotTo ps ss k + _ ≤ _
    omega
theorem dot_mono {ps ss : List Int} {n : Nat} (hp : ∀ j, j < n → 0 ≤ ps.getD j 0 ∧ ps.getD j 0 ≤ 3) (hs : ∀ j, j < n → 0 ≤ ss.getD j 0 ∧ ss.getD j 0 ≤ 64) {q : Nat} : ∀ d, q + d ≤ n → dotTo ps ss q ≤ dotTo ps ss (q + d)
  | 0, _ => Int.le_refl _
  | d + 1, hd => by
    have ih := dot_mono hp hs d (q := q) (by omega)
    have h1 := mul_in (hp (q + d) (by omega)) (hs (q + d) (by omega))
    have e : dotTo ps ss (q + (d + 1)) = dotTo ps ss (q + d) + ps.getD (q + d) 0 * ss.getD (q + d) 0 := rfl
    omega

/-- Strides are what they are without overflow. -/
theorem str_bound {zs : List Int} (hs : shapeOk zs = true) : ∀ m, m ≤ zs.length → 1 ≤ strT zs m ∧ strT zs m ≤ 4 ^ m
  | 0, _ => ⟨Int.le_refl _, Int.le_refl _⟩
  | m + 1, hm => by
    obtain ⟨h1, h2⟩ := str_bound hs m (by omega)
    have h5 := size_in hs (j := zs.length - 1 - m) (by omega)
    have h3 := ((shapeOk_iff zs).1 hs).1
    have hp := pow4 (n := m) (by omega)
    have a1 : 1 * 1 ≤ strT zs m * zs.getD (zs.length - 1 - m) 0 := Int.mul_le_mul h1 h5.1 (by decide) (by omega)
    have a2 : strT zs m * zs.getD (zs.length - 1 - m) 0 ≤ 4 ^ m * 4 := Int.mul_le_mul h2 h5.2 (by omega) (by omega)
    have e := strT_next (zs := zs) (q := zs.length - (m + 1)) (by omega)
    rw [show zs.length - (zs.length - (m + 1)) = m + 1 by omega, show zs.length - (zs.length - (m + 1) + 1) = m by omega, show zs.length - (m + 1) = zs.length - 1 - m by omega] at e
    rw [IntWalk.i64_in _ (by omega)] at e
    rw [e, Int.pow_succ]
    exact ⟨by omega, a2⟩
theorem str_in {zs : List Int} (hs : shapeOk zs = true) {m : Nat} (hm : m ≤ zs.length) : 1 ≤ strT zs m ∧ strT zs m ≤ 64 := by
  have h1 := str_bound hs m hm
  have h3 := ((shapeOk_iff zs).1 hs).1
  have hp := pow4 (n := m) (by omega)
  omega
theorem str_next {zs : List Int} (hs : shapeOk zs = true) {k : Nat} (hk : k < zs.length) : strT zs (zs.length - k) = strT zs (zs.length - (k + 1)) * zs.getD k 0 := by
  have h1 := str_in hs (m := zs.length - (k + 1)) (by omega)
  have h2 := size_in hs hk
  have h3 := mul_le4 (a := strT zs (zs.length - (k + 1))) (x := zs.getD k 0) (by omega) (by omega)
  rw [strT_next (by omega)]
  exact IntWalk.i64_in _ (by omega)
theorem strides_in {zs : List Int} (hs : shapeOk zs = true) {j : Nat} (hj : j < zs.length) : 1 ≤ (strides zs).getD j 0 ∧ (strides zs).getD j 0 ≤ 64 := by
  rw [strides_getD hj]; exact str_in hs (by omega)

/-- An index is the sum of the places times the strides. -/
theorem idx_dot_k {xs ps : List Int} (hs : shapeOk xs = true) (hp : ∀ j, j < xs.length → 0 ≤ ps.getD j 0 ∧ ps.getD j 0 < xs.getD j 0) : ∀ k, k ≤ xs.length → idxTo xs ps k * strT xs (xs.length - k) = dotTo ps (strides xs) k
  | 0, _ => by show 0 * _ = 0; exact Int.zero_mul _
  | k + 1, hk => by
    have ih := idx_dot_k hs hp k (by omega)
    have hr := idx_range hs hp k (by omega)
    rw [idx_next hs (by omega) hr (hp k (by omega)), Int.add_mul, Int.mul_assoc, Int.mul_comm (xs.getD k 0), ← str_next hs (by omega), ih]
    show _ = dotTo ps (strides xs) k + ps.getD k 0 * (strides xs).getD k 0
    rw [strides_getD (by omega), show xs.length - 1 - k = xs.length - (k + 1) by omega]
theorem idx_dot {xs ps : List Int} (hs : shapeOk xs = true) (hp : ∀ j, j < xs.length → 0 ≤ ps.getD j 0 ∧ ps.getD j 0 < xs.getD j 0) : idxTo xs ps xs.length = dotTo ps (strides xs) xs.length := by
  have h := idx_dot_k hs hp xs.length (Nat.le_refl _)
  rw [Nat.sub_self] at h
  have e : strT xs 0 = 1 := rfl
  rw [e, Int.mul_one] at h
  exact h
theorem places_in {zs : List Int} {i : Int} (hs : shapeOk zs = true) (hi : 0 ≤ i ∧ i < cntTo zs zs.length) {j : Nat} (hj : j < zs.length) : 0 ≤ (places zs i).getD j 0 ∧ (places zs i).getD j 0 ≤ 3 := by
  have h1 := place_in hs hi hj
  have h2 := size_in hs hj
  omega

/-- What is read of numbers, by steps. -/
def rdAt (shape steps : List Int) (start : Int) (i : Nat) : Int := start + dotTo (places shape i) steps shape.length
def rdL (nums shape steps : List Int) (start : Int) : List Int := (List.range (cntTo shape shape.length).toNat).map fun i => nums.getD (rdAt shape steps start i).toNat 0
theorem rdL_length (nums shape steps : List Int) (start : Int) : (rdL nums shape steps start).length = (cntTo shape shape.length).toNat := by simp [rdL]
theorem range_getD {n : Nat} {f : Nat → Int} {j : Nat} (h : j < n) : ((List.range n).map f).getD j 0 = f j := by
  simp [List.getD, List.getElem?_map, List.getElem?_range h]
theorem rdL_getD {nums shape steps : List Int} {start : Int} {j : Nat} (h : j < (cntTo shape shape.length).toNat) : (rdL nums shape steps start).getD j 0 = nums.getD (rdAt shape steps start j).toNat 0 := range_getD h
end Go.Proofs.Ytjmdhfjemaoebaa

/- All shapes that there are. -/
namespace Go.Proofs.Ytjmdhfjemaoebaa
set_option maxRecDepth 20000
open Go.RowKit Go.Am

def sizes : List Int := [1, 2, 3, 4]
def shapes3 (a : Int) : List (List Int) := sizes.flatMap fun b => sizes.map fun c => [a, b, c]
def shapes2 : List (List Int) := [] :: (sizes.map fun a => [a]) ++ (sizes.flatMap fun a => sizes.map fun b => [a, b])
theorem size_mem {z : Int} (h : 1 ≤ z ∧ z ≤ 4) : z ∈ sizes := by
  have : z = 1 ∨ z = 2 ∨ z = 3 ∨ z = 4 := by omega
  simpa [sizes] using this
theorem shape_all {p : List Int → Bool} (h2 : shapes2.all p = true) (h31 : (shapes3 1).all p = true) (h32 : (shapes3 2).all p = true) (h33 : (shapes3 3).all p = true) (h34 : (shapes3 4).all p = true) {xs : List Int} (h : shapeOk xs = true) : p xs = true := by
  have hl := ((shapeOk_iff xs).1 h).1
  have hs : ∀ z ∈ xs, z ∈ sizes := fun z hz => by
    obtain ⟨j, hj, rfl⟩ := List.mem_iff_getElem.1 hz
    have := size_in h hj
    simp only [List.getD, List.getElem?_eq_getElem hj, Option.getD_some] at this
    exact size_mem this
  rw [List.all_eq_true] at h2 h31 h32 h33 h34
  match xs, hl, hs with
  | [], _, _ => exact h2 _ (by simp [shapes2])
  | [a], _, hs =>
    have ha := hs a (by simp)
    exact h2 _ (by simp [shapes2, ha])
  | [a, b], _, hs =>
    have ha := hs a (by simp)
    have hb := hs b (by simp)
    exact h2 _ (by simp [shapes2, ha, hb])
  | [a, b, c], _, hs =>
    have ha := hs a (by simp)
    have hb := hs b (by simp)
    have hc := hs c (by simp)
    have hm : [a, b, c] ∈ shapes3 a := by
      unfold shapes3
      rw [List.mem_flatMap]
      exact ⟨b, hb, List.mem_map.2 ⟨c, hc, rfl⟩⟩
    have h4 : a = 1 ∨ a = 2 ∨ a = 3 ∨ a = 4 := by simpa [sizes] using ha
    rcases h4 with rfl | rfl | rfl | rfl
    · exact h31 _ hm
    · exact h32 _ hm
    · exact h33 _ hm
    · exact h34 _ hm
  | _ :: _ :: _ :: _ :: _, hl, _ => simp only [List.length_cons] at hl; omega
end Go.Proofs.Ytjmdhfjemaoebaa

/- Chapter 2: lists without an axis; what is told of a tensor. -/
namespace Go.Proofs.Ytjmdhfjemaoebaa
set_option maxRecDepth 20000
open Go.RowKit Go.Am
/-- Two rows of numbers are told as a tensor, if they are one. -/
def toldPost (t : TypeId) (xs zs : List Int) (r : AV) (ic : List (List AV)) (news : List Row) : Prop :=
  ic = [xs.map (.int .i64), zs.map (.int .i64)] ∧ ((tensorOk xs zs = true ∧ r = .tup [.agg [.ref 0 0 0 xs.length, .ref 1 0 0 zs.length], .bool true] ∧ news = []) ∨
    (tensorOk xs zs = false ∧ r = .tup [.agg [.ref 2 0 0 0, .ref 3 0 0 0], .bool false] ∧ news = [rowL t [], rowL t []]))
def sTold : CSpec := { ι := List Int × List Int, inout := [true], args := fun x => [.agg [.ref 0 0 0 x.1.length, .ref 1 0 0 x.2.length]], ins := fun x => [⟨0, 3, 1, x.1.map (.int .i64)⟩, ⟨0, 3, 1, x.2.map (.int .i64)⟩], pre := fun _ => True, post := fun x => toldPost 3 x.1 x.2 }
def sOrNone : CSpec := { ι := List Int × List Int, inout := [true, true], args := fun x => [.ref 0 0 0 x.1.length, .ref 1 0 0 x.2.length], ins := fun x => [⟨0, 3, 1, x.1.map (.int .i64)⟩, ⟨0, 3, 1, x.2.map (.int .i64)⟩], pre := fun _ => True, post := fun x => toldPost 3 x.1 x.2 }
theorem toldCall {f : FuncId} {sp : CSpec} {env : List AV} {rows : List Row} {ctr low τ1 τ2 v1 v2 : Nat} {args : List AV} {k : AV → St → Prop} (xs zs : List Int) (x : sp.ι) (hs : Sound Try.prog f sp) (hpre : sp.pre x) (hins : sp.ins x = [⟨0, 3, 1, xs.map (.int .i64)⟩, ⟨0, 3, 1, zs.map (.int .i64)⟩]) (hpost : sp.post x = toldPost 3 xs zs)
    (h1 : rows[τ1]? = some ⟨v1, 3, 1, xs.map (.int .i64)⟩) (h2 : rows[τ2]? = some ⟨v2, 3, 1, zs.map (.int .i64)⟩) (hne : τ1 ≠ τ2) (ha : callArgs ⟨env, rows, ctr, low⟩ [τ1, τ2] sp.inout args = some (sp.args x))
    (ht : tensorOk xs zs = true → k (.tup [.agg [.ref τ1 v1 0 xs.length, .ref τ2 v2 0 zs.length], .bool true]) ⟨env, setRows rows [τ1, τ2] [xs.map (.int .i64), zs.map (.int .i64)], ctr + 1, low⟩)
    (hf : tensorOk xs zs = false → k (.tup [.agg [.ref rows.length ctr 0 0, .ref (rows.length + 1) ctr 0 0], .bool false]) ⟨env, setRows rows [τ1, τ2] [xs.map (.int .i64), zs.map (.int .i64)] ++ [⟨ctr, 3, 1, []⟩, ⟨ctr, 3, 1, []⟩], ctr + 1, low⟩) :
    CallG Try.prog f ⟨env, rows, ctr, low⟩ args k := by
  refine .inr ⟨[τ1, τ2], sp, hs, sp.args x, _, by simpa using hne, ha, ?_, x, rfl, hins.symm, hpre, ?_⟩
  · simp [insOf, h1, h2, protL_ren (protL_ints .i64 xs), protL_ren (protL_ints .i64 zs)]
  · rw [hpost]
    rintro r ic news ⟨rfl, ⟨e, rfl, rfl⟩ | ⟨e, rfl, rfl⟩⟩ _
    · have := ht e
      simpa [St.after, St.news, AV.back, Go.Am.backL, backT, backV, verOf, h1, h2, protL_back (protL_ints .i64 xs), protL_back (protL_ints .i64 zs)] using this
    · have := hf e
      simpa [St.after, St.news, AV.back, Go.Am.backL, backT, backV, verOf, h1, h2, protL_back (protL_ints .i64 xs), protL_back (protL_ints .i64 zs), Nat.add_comm] using this
attribute [local irreducible] aPlan aGet aIf aLoop aCall RetB NextB CallB CallG aCut aSet aAppend

def wo (xs : List Int) (a : Nat) : List Int := xs.take a ++ xs.drop (a + 1)
theorem wo_length {xs : List Int} {a : Nat} (h : a < xs.length) : (wo xs a).length = xs.length - 1 := by simp [wo]; omega
theorem map_cut (xs : List Int) (l m : Nat) : ((xs.map (AV.int .i64)).drop l).take m = ((xs.drop l).take m).map (.int .i64) := by simp
theorem l2Nums_cut {c n : Nat} {zs : List Int} {cells : List AV} {env : List AV} {rows : List Row} {ctr low : Nat} {k : AV → St → Prop} (hc : cells = zs.map (.int .i64)) (hn : n = zs.length) (hpre : zs.length ≤ 1048576) (h : k (.ref rows.length ctr 0 zs.length) ⟨env, rows ++ [⟨ctr, 3, 1, zs.map (.int .i64)⟩], ctr + 1, low⟩) :
    CallB Try.prog 75 ⟨env, rows, ctr, low⟩ [.sl c n cells] k := by
  subst hc; subst hn; exact l2Nums_call hpre h
theorem copyNums_cut {c n : Nat} {zs : List Int} {cells : List AV} {env : List AV} {rows : List Row} {ctr low : Nat} {k : AV → St → Prop} (hc : cells = zs.map (.int .i64)) (hn : n = zs.length) (hpre : zs.length ≤ 1048576) (h : k (.ref rows.length ctr 0 zs.length) ⟨env, rows ++ [⟨ctr, 3, 1, zs.map (.int .i64)⟩], ctr + 1, low⟩) :
    CallB Try.prog 71 ⟨env, rows, ctr, low⟩ [.sl c n cells] k := by
  subst hc; subst hn; exact copyNums_call hpre h
set_option maxRecDepth 10000 in
theorem l2Without_sound : Sound Try.prog 158 (fnL (ι := Nat × List Int × Nat) 3 (fun | (c, xs, a) => [.sl c xs.length (xs.map (.int .i64)), .int .i64 a]) (fun | (_, xs, a) => xs.length ≤ 1048576 ∧ a < xs.length) (fun | (_, xs, a) => wo xs a)) := by
  refine sound_of Try.func158 rfl (enters_of Try.func158 (by kernel_rfl) (by kernel_rfl)) ?_
  rintro ⟨c, xs, a⟩ hpre
  have hpre : xs.length ≤ 1048576 ∧ a < xs.length := hpre
  have hw : IntKind.i64.wrap ((a : Int) + 1) = ((a + 1 : Nat) : Int) := (IntWalk.i64_in _ (by omega)).trans (by omega)
  have hmax : maxLen = 9223372036854775807 := rfl
  conv => whnf
  repeat' (first
    | (refine And.intro (by omega) ?_; conv => whnf)
    | (refine And.intro (by rw [List.length_map]; omega) ?_; conv => whnf)
    | (refine callG_t ?_; conv => whnf)
    | (refine append_same ?_; conv => whnf)
    | (refine And.intro (pureL_take _ _ _) ?_; conv => whnf))
  have ew : (IntKind.i64.wrap ((a : Int) + 1)).toNat = a + 1 := by omega
  refine l2Nums_cut (zs := xs.take a) (by simp [List.map_take]) (by simp; omega) (by simp; omega) ?_
  conv => whnf
  repeat' (first
    | (refine And.intro (by omega) ?_; conv => whnf)
    | (refine And.intro (by rw [List.length_map]; omega) ?_; conv => whnf)
    | (refine append_same ?_; conv => whnf))
  refine append_sl (zs := xs.take a) (ws := xs.drop (a + 1)) rfl (by rw [ew, Nat.mul_one, Nat.mul_one, List.take_of_length_le (by simp), List.map_drop]) (by rw [ew]; simp) rfl (by simp; omega) (Nat.zero_le _) (fun e => ?_) (fun _ => ?_)
  · have e' : wo xs a = xs.take a := by unfold wo; rw [e, List.append_nil]
    conv => whnf
    repeat' (first
      | (refine append_same ?_; conv => whnf))
    exact retL rfl rfl (by simp [e']) (by simp [e'])
  · have e' : wo xs a = xs.take a ++ xs.drop (a + 1) := rfl
    conv => whnf
    repeat' (first
      | (refine append_same ?_; conv => whnf))
    exact retL rfl rfl rfl (by rw [ew]; simp [e'])
theorem l2Without_call {c : Nat} {xs : List Int} {a : Nat} {env : List AV} {rows : List Row} {ctr low : Nat} {k : AV → St → Prop} (hpre : xs.length ≤ 1048576 ∧ a < xs.length) (h : k (.ref rows.length ctr 0 (wo xs a).length) ⟨env, rows ++ [⟨ctr, 3, 1, (wo xs a).map (.int .i64)⟩], ctr + 1, low⟩) :
    CallB Try.prog 158 ⟨env, rows, ctr, low⟩ [.sl c xs.length (xs.map (.int .i64)), .int .i64 a] k := callL_in l2Without_sound (c, xs, a) hpre h

set_option maxRecDepth 10000 in
theorem l2Told_sound : Sound Try.prog 66 sTold := by
  refine sound_of Try.func66 rfl (enters_of Try.func66 (by kernel_rfl) (by kernel_rfl)) ?_
  rintro ⟨xs, zs⟩ -
  rcases tensor_or xs zs with ⟨ht, hx, hz⟩ | ht
  · conv => whnf
    dsimp only
    repeat' (first
      | (refine load_same ?_; conv => whnf)
      | (refine And.intro rfl (And.intro (List.cons_ne_nil _ _) ?_); conv => whnf)
      | (refine And.intro (Nat.le_of_ble_eq_true rfl) ?_; conv => whnf)
      | (refine callG_t ?_; conv => whnf)
      | (refine sTensorOk_call ?_; conv => whnf)
      | (refine append_same ?_; conv => whnf)
      | (refine takeN_in ?_; conv => whnf)
      | (refine cut_ints ?_; conv => whnf)
      | (refine set_force ?_; conv => whnf)
      | (refine And.intro (by kernel_rfl) ?_; conv => whnf)
      | (refine aIf_tt (by assumption) ?_; conv => whnf)
      | refine aIf_not ?_)
    exact retKeep2 (xs := xs) (zs := zs) ⟨rfl, .inl ⟨ht, rfl, rfl⟩⟩
  · conv => whnf
    dsimp only
    repeat' (first
      | (refine load_same ?_; conv => whnf)
      | (refine And.intro rfl (And.intro (List.cons_ne_nil _ _) ?_); conv => whnf)
      | (refine And.intro (Nat.le_of_ble_eq_true rfl) ?_; conv => whnf)
      | (refine callG_t ?_; conv => whnf)
      | (refine sTensorOk_call ?_; conv => whnf)
      | (refine append_same ?_; conv => whnf)
      | (refine takeN_in ?_; conv => whnf)
      | (refine cut_ints ?_; conv => whnf)
      | (refine set_force ?_; conv => whnf)
      | (refine And.intro (by kernel_rfl) ?_; conv => whnf)
      | (refine aIf_ff (by assumption) ?_; conv => whnf)
      | refine aIf_not ?_)
    refine retNew2 (xs := xs) (zs := zs) (ps := []) (qs := []) ?_ ?_ ?_ ⟨rfl, .inr ⟨ht, rfl, rfl⟩⟩
    all_goals (first | exact rfl | decide)
set_option maxRecDepth 10000 in
theorem orNone_sound : Sound Try.prog 70 sOrNone := by
  refine sound_of Try.func70 rfl (enters_of Try.func70 (by kernel_rfl) (by kernel_rfl)) ?_
  rintro ⟨xs, zs⟩ -
  rcases tensor_or xs zs with ⟨ht, hx, hz⟩ | ht
  · conv => whnf
    dsimp only
    repeat' (first
      | (refine load_same ?_; conv => whnf)
      | (refine And.intro (Nat.le_of_ble_eq_true rfl) ?_; conv => whnf)
      | (refine callG_t ?_; conv => whnf)
      | (refine iTensorOk_call ?_; conv => whnf)
      | (refine append_same ?_; conv => whnf)
      | (refine takeN_in ?_; conv => whnf)
      | (refine cut_ints ?_; conv => whnf)
      | (refine set_force ?_; conv => whnf)
      | (refine And.intro (by kernel_rfl) ?_; conv => whnf)
      | (refine aIf_tt (by assumption) ?_; conv => whnf)
      | refine aIf_not ?_)
    exact retKeep2 (xs := xs) (zs := zs) ⟨rfl, .inl ⟨ht, rfl, rfl⟩⟩
  · conv => whnf
    dsimp only
    repeat' (first
      | (refine load_same ?_; conv => whnf)
      | (refine And.intro (Nat.le_of_ble_eq_true rfl) ?_; conv => whnf)
      | (refine callG_t ?_; conv => whnf)
      | (refine iTensorOk_call ?_; conv => whnf)
      | (refine append_same ?_; conv => whnf)
      | (refine takeN_in ?_; conv => whnf)
      | (refine cut_ints ?_; conv => whnf)
      | (refine set_force ?_; conv => whnf)
      | (refine And.intro (by kernel_rfl) ?_; conv => whnf)
      | (refine aIf_ff (by assumption) ?_; conv => whnf)
      | refine aIf_not ?_)
    refine retNew2 (xs := xs) (zs := zs) (ps := []) (qs := []) ?_ ?_ ?_ ⟨rfl, .inr ⟨ht, rfl, rfl⟩⟩
    all_goals (first | exact rfl | decide)

theorem orNone_call {env : List AV} {rows : List Row} {ctr low τ1 τ2 v1 v2 n1 n2 : Nat} {k : AV → St → Prop} (xs zs : List Int)
    (h1 : rows[τ1]? = some ⟨v1, 3, 1, xs.map (.int .i64)⟩) (h2 : rows[τ2]? = some ⟨v2, 3, 1, zs.map (.int .i64)⟩) (hne : τ1 ≠ τ2) (e1 : n1 = xs.length) (e2 : n2 = zs.length)
    (ht : tensorOk xs zs = true → k (.tup [.agg [.ref τ1 v1 0 xs.length, .ref τ2 v2 0 zs.length], .bool true]) ⟨env, setRows rows [τ1, τ2] [xs.map (.int .i64), zs.map (.int .i64)], ctr + 1, low⟩)
    (hf : tensorOk xs zs = false → k (.tup [.agg [.ref rows.length ctr 0 0, .ref (rows.length + 1) ctr 0 0], .bool false]) ⟨env, setRows rows [τ1, τ2] [xs.map (.int .i64), zs.map (.int .i64)] ++ [⟨ctr, 3, 1, []⟩, ⟨ctr, 3, 1, []⟩], ctr + 1, low⟩) :
    CallG Try.prog 70 ⟨env, rows, ctr, low⟩ [.ref τ1 v1 0 n1, .ref τ2 v2 0 n2] k := by
  subst e1; subst e2
  refine toldCall xs zs (sp := sOrNone) (xs, zs) orNone_sound trivial rfl rfl h1 h2 hne ?_ ht hf
  have hb : (τ1 == τ2) = false := by simpa using hne
  have a1 : callArg ⟨env, rows, ctr, low⟩ [τ1, τ2] true (.ref τ1 v1 0 xs.length) = some (.ref 0 0 0 xs.length) := by simp [callArg, AV.ren, h1, List.idxOf, List.findIdx_cons]
  have a2 : callArg ⟨env, rows, ctr, low⟩ [τ1, τ2] true (.ref τ2 v2 0 zs.length) = some (.ref 1 0 0 zs.length) := by simp [callArg, AV.ren, h2, List.idxOf, List.findIdx_cons, hb]
  show (callArg ⟨env, rows, ctr, low⟩ [τ1, τ2] true (.ref τ1 v1 0 xs.length)).bind (fun u' => ((callArg ⟨env, rows, ctr, low⟩ [τ1, τ2] true (.ref τ2 v2 0 zs.length)).bind fun u'' => some [u'']).map (u' :: ·)) = _
  rw [a1, a2]
  rfl
theorem l2Told_call {env : List AV} {rows : List Row} {ctr low τ1 τ2 v1 v2 n1 n2 : Nat} {k : AV → St → Prop} (xs zs : List Int)
    (h1 : rows[τ1]? = some ⟨v1, 3, 1, xs.map (.int .i64)⟩) (h2 : rows[τ2]? = some ⟨v2, 3, 1, zs.map (.int .i64)⟩) (hne : τ1 ≠ τ2) (e1 : n1 = xs.length) (e2 : n2 = zs.length)
    (ht : tensorOk xs zs = true → k (.tup [.agg [.ref τ1 v1 0 xs.length, .ref τ2 v2 0 zs.length], .bool true]) ⟨env, setRows rows [τ1, τ2] [xs.map (.int .i64), zs.map (.int .i64)], ctr + 1, low⟩)
    (hf : tensorOk xs zs = false → k (.tup [.agg [.ref rows.length ctr 0 0, .ref (rows.length + 1) ctr 0 0], .bool false]) ⟨env, setRows rows [τ1, τ2] [xs.map (.int .i64), zs.map (.int .i64)] ++ [⟨ctr, 3, 1, []⟩, ⟨ctr, 3, 1, []⟩], ctr + 1, low⟩) :
    CallG Try.prog 66 ⟨env, rows, ctr, low⟩ [.agg [.ref τ1 v1 0 n1, .ref τ2 v2 0 n2]] k := by
  subst e1; subst e2
  refine toldCall xs zs (sp := sTold) (xs, zs) l2Told_sound trivial rfl rfl h1 h2 hne ?_ ht hf
  have hb : (τ1 == τ2) = false := by simpa using hne
  have a1 : callArg ⟨env, rows, ctr, low⟩ [τ1, τ2] true (.agg [.ref τ1 v1 0 xs.length, .ref τ2 v2 0 zs.length]) = some (.agg [.ref 0 0 0 xs.length, .ref 1 0 0 zs.length]) := by simp [callArg, AV.ren, Go.Am.renL, h1, h2, List.idxOf, List.findIdx_cons, hb]
  show (callArg ⟨env, rows, ctr, low⟩ [τ1, τ2] true (.agg [.ref τ1 v1 0 xs.length, .ref τ2 v2 0 zs.length])).bind (fun u' => some [u']) = _
  rw [a1]
  rfl
end Go.Proofs.Ytjmdhfjemaoebaa

/- What is reckoned over all shapes and axes: where a number goes when it is summed. -/
namespace Go.Proofs.Ytjmdhfjemaoebaa
set_option maxRecDepth 20000
open Go.RowKit Go.Am

def stpA (xs : List Int) (a : Nat) : Int := (strides xs).getD a 0
def blkA (xs : List Int) (a : Nat) : Int := stpA xs a * xs.getD a 0
def sumI (xs : List Int) (a k : Nat) : Int := (k : Int).tdiv (blkA xs a) * stpA xs a + (k : Int).tmod (stpA xs a)
def sumS (xs : List Int) (a k : Nat) : Int := idxTo (wo xs a) (wo (places xs k) a) (wo xs a).length
def cntM (xs : List Int) : Nat := (cntTo xs xs.length).toNat
def sumChk (xs : List Int) : Bool := (List.range xs.length).all fun a => shapeOk (wo xs a) && ((cntTo xs xs.length).tdiv (xs.getD a 0) == cntTo (wo xs a) (wo xs a).length) && decide (blkA xs a ≤ 64) && decide (1 ≤ blkA xs a) &&
  (List.range (cntM xs)).all fun k => decide (0 ≤ sumI xs a k) && decide (sumI xs a k < cntTo (wo xs a) (wo xs a).length) && (sumI xs a k == sumS xs a k) && decide (0 ≤ (k : Int).tdiv (blkA xs a) * stpA xs a) && decide ((k : Int).tdiv (blkA xs a) * stpA xs a ≤ 64)
theorem sumChk_2 : shapes2.all sumChk = true := by kernel_rfl
theorem sumChk_31 : (shapes3 1).all sumChk = true := by kernel_rfl
theorem sumChk_32 : (shapes3 2).all sumChk = true := by kernel_rfl
theorem sumChk_33 : (shapes3 3).all sumChk = true := by kernel_rfl
theorem sumChk_34 : (shapes3 4).all sumChk = true := by kernel_rfl
structure SumFacts (xs : List Int) (a : Nat) : Prop where
  sh : shapeOk (wo xs a) = true
  cnt : (cntTo xs xs.length).tdiv (xs.getD a 0) = cntTo (wo xs a) (wo xs a).length
  blk : 1 ≤ blkA xs a ∧ blkA xs a ≤ 64
  at_ : ∀ k : Nat, (k : Int) < cntTo xs xs.length → (0 ≤ sumI xs a k ∧ sumI xs a k < cntTo (wo xs a) (wo xs a).length) ∧ sumI xs a k = sumS xs a k ∧ 0 ≤ (k : Int).tdiv (blkA xs a) * stpA xs a ∧ (k : Int).tdiv (blkA xs a) * stpA xs a ≤ 64
theorem sum_facts {xs : List Int} (hs : shapeOk xs = true) {a : Nat} (ha : a < xs.length) : SumFacts xs a := by
  have h := shape_all sumChk_2 sumChk_31 sumChk_32 sumChk_33 sumChk_34 hs
  unfold sumChk at h
  rw [List.all_eq_true] at h
  have h := h a (List.mem_range.2 ha)
  simp only [Bool.and_eq_true, decide_eq_true_eq, beq_iff_eq, List.all_eq_true] at h
  obtain ⟨⟨⟨⟨h1, h2⟩, h3⟩, h4⟩, h5⟩ := h
  have hc := cnt64 hs (Nat.le_refl _)
  refine ⟨h1, h2, ⟨h4, h3⟩, fun k hk => ?_⟩
  obtain ⟨⟨⟨⟨a1, a2⟩, a3⟩, a4⟩, a5⟩ := h5 k (List.mem_range.2 (by unfold cntM; omega))
  exact ⟨⟨a1, a2⟩, a3, a4, a5⟩

/-- Sums, number by number. -/
def smTo (xs zs : List Int) (a : Nat) : Nat → List Int
  | 0 => List.replicate (cntTo (wo xs a) (wo xs a).length).toNat 0
  | k + 1 => (smTo xs zs a k).set (sumI xs a k).toNat (IntKind.i64.wrap ((smTo xs zs a k).getD (sumI xs a k).toNat 0 + zs.getD k 0))
theorem smTo_length (xs zs : List Int) (a : Nat) : ∀ k, (smTo xs zs a k).length = (cntTo (wo xs a) (wo xs a).length).toNat
  | 0 => by simp [smTo]
  | k + 1 => by rw [smTo, List.length_set]; exact smTo_length xs zs a k
def told (xs zs : List Int) : TM := if tensorOk xs zs = true then (xs, zs, true) else noT
theorem told_t {xs zs : List Int} (h : tensorOk xs zs = true) : told xs zs = (xs, zs, true) := if_pos h
theorem told_f {xs zs : List Int} (h : tensorOk xs zs = false) : told xs zs = noT := if_neg (by rw [h]; exact Bool.false_ne_true)
theorem told_len (xs zs : List Int) : (told xs zs).1.length ≤ 3 ∧ (told xs zs).2.1.length ≤ 64 := by
  rcases tensor_or xs zs with ⟨ht, hx, hz⟩ | ht
  · rw [told_t ht]; exact ⟨hx, hz.2⟩
  · rw [told_f ht]; exact ⟨Nat.zero_le _, Nat.zero_le _⟩
def sumM (xs zs : List Int) (i : Int) : TM := if tensorOk xs zs = true ∧ 0 ≤ i ∧ i < xs.length then told (wo xs i.toNat) (smTo xs zs i.toNat zs.length) else noT
theorem sumM_t {xs zs : List Int} {a : Nat} (h : tensorOk xs zs = true) (ha : a < xs.length) : sumM xs zs a = told (wo xs a) (smTo xs zs a zs.length) := by
  unfold sumM; rw [if_pos ⟨h, by omega, by omega⟩, Int.toNat_natCast]
theorem sumM_f1 {xs zs : List Int} {i : Int} (h : tensorOk xs zs = false) : sumM xs zs i = noT := if_neg (by rw [h]; exact fun h => Bool.false_ne_true h.1)
theorem sumM_f2 {xs zs : List Int} {i : Int} (h : ¬ (0 ≤ i ∧ i < xs.length)) : sumM xs zs i = noT := if_neg (fun h' => h h'.2)
theorem sumM_len (xs zs : List Int) (i : Int) : (sumM xs zs i).1.length ≤ 3 ∧ (sumM xs zs i).2.1.length ≤ 64 := by
  unfold sumM; split
  · exact told_len _ _
  · exact ⟨Nat.zero_le _, Nat.zero_le _⟩
end Go.Proofs.Ytjmdhfjemaoebaa

/- Chapter 2: readBy, spreadSteps. -/
namespace Go.Proofs.Ytjmdhfjemaoebaa
set_option maxRecDepth 20000
open Go.RowKit Go.Am
attribute [local irreducible] aPlan aGet aIf aLoop aCall RetB NextB CallB CallG aCut aSet aAppend

structure RdPre (nums shape steps : List Int) (start : Int) : Prop where
  sh : shapeOk shape = true
  len : steps.length = shape.length
  st : ∀ j, j < shape.length → 0 ≤ steps.getD j 0 ∧ steps.getD j 0 ≤ 64
  s0 : 0 ≤ start ∧ start ≤ 256
  at_ : ∀ i : Nat, (i : Int) < cntTo shape shape.length → 0 ≤ rdAt shape steps start i ∧ rdAt shape steps start i < nums.length
def sReadBy : CSpec := fnT (ι := Nat × List Int × Nat × List Int × Nat × List Int × Int) 3 (fun | (c, nums, d, shape, e, steps, start) => [.sl c nums.length (nums.map (.int .i64)), .sl d shape.length (shape.map (.int .i64)), .sl e steps.length (steps.map (.int .i64)), .int .i64 start]) (fun | (_, nums, _, shape, _, steps, start) => RdPre nums shape steps start) (fun | (_, _, _, shape, _, _, _) => shape) (fun | (_, nums, _, shape, _, steps, start) => rdL nums shape steps start)
set_option maxHeartbeats 4000000 in
set_option maxRecDepth 10000 in
theorem readBy_sound : Sound Try.prog 136 sReadBy := by
  refine sound_of Try.func136 rfl (enters_of Try.func136 (by kernel_rfl) (by kernel_rfl)) ?_
  rintro ⟨c, nums, d, shape, e, steps, start⟩ hpre
  have hpre : RdPre nums shape steps start := hpre
  obtain ⟨hsh, hlen, hst, hs0, hat⟩ := hpre
  have hn3 := ((shapeOk_iff shape).1 hsh).1
  have hc := cnt64 hsh (Nat.le_refl _)
  have hcc : countOf shape = cntTo shape shape.length := if_pos hsh
  have hmax : maxLen = 9223372036854775807 := rfl
  conv => whnf
  repeat' (first
    | (refine plan_in (id := 10) [0, 1, 2, 3, 4, 5, 6, 7, 8, 9, 10, 11, 12, 13] (by kernel_rfl) (by kernel_rfl) ?_; conv => whnf)
    | (refine fun (_ : _ ≤ maxLen) => ?_; conv => whnf)
    | (refine And.intro (And.intro (Int.le_refl _) (And.intro (by kernel_rfl) (And.intro rfl (by kernel_rfl)))) (And.intro (And.intro (by omega) (And.intro (bytes_le (b := 8) rfl (by omega)) (by omega))) ?_); conv => whnf)
    | (refine callG_t ?_; conv => whnf)
    | (refine append_same ?_; conv => whnf)
    | (refine And.intro (pureL_ints _ _) ?_; conv => whnf)
    | (refine iCountOf_call ?_; conv => whnf)
    | (refine And.intro (by kernel_rfl) ?_; conv => whnf))
  refine loop_in (ι := Nat × List Int) (fun | (k, ws) => ⟨[.sl c nums.length (nums.map (.int .i64)), .sl d shape.length (shape.map (.int .i64)), .sl e steps.length (steps.map (.int .i64)), .int .i64 start, .un, .un, .un, .un, .ptr 2 3 0, .ref 3 5 0 (countOf shape).toNat, .un, .un, .un, .un, .un, .un, .un, .un, .int .i64 (countOf shape).toNat, .int .i64 k, .un, .un, .un, .un, .un, .un, .un, .un, .un, .un, .un, .un, .un, .un, .un, .un, .un, .un, .un, .un, .un, .un, .un, .un, .un, .un, .un, .un, .un, .un, .un, .un, .un, .un, .un, .un, .un, .un, .un, .un, .un, .un], [nl 1, nl 2, bt 3 [.ref 0 1 0 0, .ref 1 2 0 0], li 5 ws], 6, 0⟩)
    (fun x => x.1 ≤ (countOf shape).toNat ∧ x.2.length = (countOf shape).toNat ∧ ∀ j, j < x.1 → x.2.getD j 0 = nums.getD (rdAt shape steps start j).toNat 0) (fun x => (countOf shape).toNat - x.1) (0, List.replicate (countOf shape).toNat 0) ⟨Nat.zero_le _, by simp, fun j hj => absurd hj (Nat.not_lt_zero _)⟩ ?_ ?_
  · repeat' (first
      | exact trivial
      | exact rfl
      | exact pureL_ints _ _
      | exact Or.inl (And.intro rfl rfl)
      | exact le_ints (rep_ints _ _)
      | refine Or.inr ?_
      | refine And.intro ?_ ?_
      | exact Nat.le_of_ble_eq_true rfl)
  · rintro ⟨k, ws⟩ ⟨hk, hl, hall⟩
    have hk : k ≤ (countOf shape).toNat := hk
    have hl : ws.length = (countOf shape).toNat := hl
    have hall : ∀ j, j < k → ws.getD j 0 = nums.getD (rdAt shape steps start j).toNat 0 := hall
    conv => whnf
    repeat' (first
      | (refine plan_in (id := 10) [0, 1, 2, 3, 4, 5, 6, 7, 8, 9, 10, 11, 12, 13] (by kernel_rfl) (by kernel_rfl) ?_; conv => whnf)
      | (refine fun (_ : _ ≤ maxLen) => ?_; conv => whnf)
      | (refine And.intro (Nat.le_of_ble_eq_true rfl) ?_; conv => whnf)
      | (refine callG_t ?_; conv => whnf)
      | (refine copyNums_call (by omega) ?_; conv => whnf)
      | (refine append_same ?_; conv => whnf)
      | (refine takeN_in ?_; conv => whnf)
      | (refine And.intro (pureL_ints _ _) ?_; conv => whnf)
      | (refine set_force ?_; conv => whnf)
      | (refine And.intro (by kernel_rfl) ?_; conv => whnf)
      | (refine aIf_dec (fun _ => ?_) (fun _ => ?_) <;> conv => whnf))
    · have hki : (0 : Int) ≤ (k : Int) ∧ (k : Int) < cntTo shape shape.length := by omega
      have hP : ∀ j, j < shape.length → 0 ≤ (places shape k).getD j 0 ∧ (places shape k).getD j 0 ≤ 3 := fun j hj => places_in hsh hki hj
      have hdn := dot_in hP hst shape.length (Nat.le_refl _)
      refine loop_in (ι := Nat × Int × Int) (fun | (q, at_, rest) => ⟨[.sl c nums.length (nums.map (.int .i64)), .sl d shape.length (shape.map (.int .i64)), .sl e steps.length (steps.map (.int .i64)), .int .i64 start, .un, .un, .un, .un, .ptr 2 3 0, .ref 3 5 0 (countOf shape).toNat, .int .i64 k, .int .i64 at_, .int .i64 rest, .int .i64 (q - 1), .un, .un, .un, .un, .int .i64 (countOf shape).toNat, .int .i64 k, .un, .un, .un, .un, .un, .un, .un, .un, .un, .un, .un, .un, .un, .un, .un, .un, .un, .un, .un, .un, .un, .un, .un, .un, .un, .un, .un, .un, .un, .un, .un, .un, .un, .un, .un, .un, .un, .un, .un, .un, .un, .un], [nl 1, nl 2, bt 3 [.ref 0 1 0 0, .ref 1 2 0 0], li 5 ws], 6, 0⟩)
        (fun x => x.1 ≤ shape.length ∧ x.2.1 = start + (dotTo (places shape k) steps shape.length - dotTo (places shape k) steps x.1) ∧ x.2.2 = quoT shape k (shape.length - x.1)) (fun x => x.1) (shape.length, start, k) ⟨Nat.le_refl _, (show start = start + (dotTo (places shape k) steps shape.length - dotTo (places shape k) steps shape.length) by omega), by rw [Nat.sub_self]; rfl⟩ ?_ ?_
      · repeat' (first
          | exact trivial
          | exact rfl
          | exact pureL_ints _ _
          | exact Or.inl (And.intro rfl rfl)
          | exact le_ints rfl
          | refine Or.inr ?_
          | refine And.intro ?_ ?_
          | exact Nat.le_of_ble_eq_true rfl
          | exact int_eq (by rw [IntWalk.i64_in _ (by omega)] <;> omega))
      · rintro ⟨q, at_, rest⟩ ⟨hq, hat_, hrest⟩
        have hq : q ≤ shape.length := hq
        have hat_ : at_ = start + (dotTo (places shape k) steps shape.length - dotTo (places shape k) steps q) := hat_
        have hrest : rest = quoT shape k (shape.length - q) := hrest
        have hdq := dot_in hP hst q hq
        by_cases h0 : q = 0
        · subst h0
          have e0 : at_ = rdAt shape steps start k := by
            rw [hat_]; show _ = start + _
            have : dotTo (places shape k) steps 0 = 0 := rfl
            omega
          have h9 := hat k hki.2
          rw [← e0] at h9
          conv => whnf
          repeat' (first
            | (refine plan_in (id := 10) [0, 1, 2, 3, 4, 5, 6, 7, 8, 9, 10, 11, 12, 13] (by kernel_rfl) (by kernel_rfl) ?_; conv => whnf)
            | (refine aIf_f ?_; conv => whnf)
            | (refine get_int (by omega) ?_; conv => whnf)
            | (refine And.intro (by omega) ?_; conv => whnf)
            | (refine append_same ?_; conv => whnf)
            | (refine And.intro rfl (And.intro rfl (And.intro (by first | omega | (rw [List.length_map]; omega)) ?_)); conv => whnf)
            | (refine set_nat ?_ (by omega); conv => whnf))
          all_goals (first | (exfalso; omega) | skip)
          · refine next_in (k + 1, ws.set k (nums.getD at_.toNat 0)) (show (countOf shape).toNat - (k + 1) < (countOf shape).toNat - k by omega) ⟨(show k + 1 ≤ (countOf shape).toNat by omega), by simpa using hl, fun j hj => ?_⟩ ?_
            · have hj : j < k + 1 := hj
              show (ws.set k (nums.getD at_.toNat 0)).getD j 0 = _
              rw [getD_set (by omega)]
              split
              · rename_i e; rw [← e, e0]
              · exact hall j (by omega)
            · repeat' (first
                | exact trivial
                | exact rfl
                | exact pureL_ints _ _
                | exact Or.inl (And.intro rfl rfl)
                | exact le_ints rfl
                | refine Or.inr ?_
                | refine And.intro ?_ ?_
                | exact Nat.le_of_ble_eq_true rfl
                | exact int_eq (by rw [IntWalk.i64_in _ (by omega)] <;> omega))
        · obtain ⟨q, rfl⟩ : ∃ q', q = q' + 1 := ⟨q - 1, by omega⟩
          have e1 : (((q + 1 : Nat) : Int) - 1).toNat = q := by omega
          have hz := size_in hsh (j := q) (by omega)
          have hz' : 1 ≤ shape.getD (((q + 1 : Nat) : Int) - 1).toNat 0 ∧ shape.getD (((q + 1 : Nat) : Int) - 1).toNat 0 ≤ 4 := by rw [e1]; exact hz
          have e2 := quoT_next (zs := shape) (i := k) hq
          have e3 : rest.tmod (shape.getD q 0) = (places shape k).getD q 0 := by
            rw [places_getD (by omega), hrest]; congr 2; omega
          have hm := mul_in (hP q (by omega)) (hst q (by omega))
          have hd1 := dot_in hP hst (q + 1) hq
          have hd0 := dot_in hP hst q (by omega)
          have hmo := dot_mono hP hst (q := q + 1) (shape.length - (q + 1)) (by omega)
          rw [show q + 1 + (shape.length - (q + 1)) = shape.length by omega] at hmo
          have hds : dotTo (places shape k) steps (q + 1) = dotTo (places shape k) steps q + (places shape k).getD q 0 * steps.getD q 0 := rfl
          conv => whnf
          repeat' (first
            | (refine plan_in (id := 10) [0, 1, 2, 3, 4, 5, 6, 7, 8, 9, 10, 11, 12, 13] (by kernel_rfl) (by kernel_rfl) ?_; conv => whnf)
            | (refine get_nat (by omega) ?_; conv => whnf)
            | (refine get_int (by omega) ?_; conv => whnf)
            | (refine And.intro (by omega) ?_; conv => whnf)
            | (refine append_same ?_; conv => whnf)
            | (refine set_nat ?_ (by omega); conv => whnf)
            | (refine aIf_dec (fun _ => ?_) (fun _ => ?_) <;> conv => whnf))
          all_goals (first | (exfalso; omega) | skip)
          rw [e1]
          refine next_in (q, IntKind.i64.wrap (at_ + IntKind.i64.wrap (rest.tmod (shape.getD q 0) * steps.getD q 0)), IntKind.i64.wrap (rest.tdiv (shape.getD q 0))) (Nat.lt_succ_self _) ⟨(show q ≤ shape.length by omega), ?_, ?_⟩ ?_
          · show IntKind.i64.wrap (at_ + IntKind.i64.wrap (rest.tmod (shape.getD q 0) * steps.getD q 0)) = start + (dotTo (places shape k) steps shape.length - dotTo (places shape k) steps q)
            rw [e3, IntWalk.i64_in ((places shape k).getD q 0 * steps.getD q 0) (by omega), IntWalk.i64_in _ (by omega)]
            omega
          · show IntKind.i64.wrap (rest.tdiv (shape.getD q 0)) = quoT shape k (shape.length - q)
            rw [e2, ← hrest]
          · repeat' (first
              | exact trivial
              | exact rfl
              | exact pureL_ints _ _
              | exact Or.inl (And.intro rfl rfl)
              | exact le_ints rfl
              | refine Or.inr ?_
              | refine And.intro ?_ ?_
              | exact Nat.le_of_ble_eq_true rfl
              | exact int_eq (by rw [IntWalk.i64_in _ (by omega)] <;> omega))
    · have e : ws = rdL nums shape steps start := getD_ext (by rw [rdL_length, hl, hcc]) fun j hj => by
        rw [rdL_length] at hj
        rw [hall j (by omega), rdL_getD hj]
      subst e
      refine retT ?_ ?_ ?_ ?_ ?_
      all_goals (first | exact rfl | decide | (rw [rdL_length, hcc]; done) | (simp; done))
theorem readBy_call {c d e n1 n2 n3 : Nat} {nums shape steps : List Int} {start : Int} {env : List AV} {rows : List Row} {ctr low : Nat} {k : AV → St → Prop} (hpre : RdPre nums shape steps start) (e1 : n1 = nums.length) (e2 : n2 = shape.length) (e3 : n3 = steps.length)
    (hk : k (.agg [.ref rows.length ctr 0 shape.length, .ref (rows.length + 1) ctr 0 (rdL nums shape steps start).length]) ⟨env, rows ++ [⟨ctr, 3, 1, shape.map (.int .i64)⟩, ⟨ctr, 3, 1, (rdL nums shape steps start).map (.int .i64)⟩], ctr + 1, low⟩) :
    CallB Try.prog 136 ⟨env, rows, ctr, low⟩ [.sl c n1 (nums.map (.int .i64)), .sl d n2 (shape.map (.int .i64)), .sl e n3 (steps.map (.int .i64)), .int .i64 start] k := by
  subst e1; subst e2; subst e3
  exact callT_in readBy_sound (c, nums, d, shape, e, steps, start) hpre hk

end Go.Proofs.Ytjmdhfjemaoebaa

/- SpreadIndex of the program. -/
namespace Go.Proofs.Ytjmdhfjemaoebaa
set_option maxRecDepth 20000
open Go.RowKit Go.Am
attribute [local irreducible] aPlan aGet aIf aLoop aCall RetB NextB CallB CallG aCut aSet aAppend

set_option maxHeartbeats 4000000 in
set_option maxRecDepth 10000 in
theorem iSpreadIndex_sound : Sound Try.prog 69 sSpread := by
  refine sound_of Try.func69 rfl (enters_of Try.func69 (by kernel_rfl) (by kernel_rfl)) ?_
  rintro ⟨c, xs, d, ys, i⟩ hpre
  have hpre : ys.length ≤ 1048576 := hpre
  by_cases hs : jOk xs ys = true ∧ jL xs ys = ys
  · obtain ⟨hj, he⟩ := hs
    obtain ⟨hy, hxy⟩ := sp_facts hj he
    have hly := ((shapeOk_iff ys).1 hy).1
    by_cases hi' : 0 ≤ i ∧ i < cntTo ys ys.length
    · have hpa := pa_t hy hi'
      have hok : paOk ys i = true := hpa.2.symm
      have hpl := places_length ys i
      conv => whnf
      repeat' (first
        | (refine aIf_t ?_; conv => whnf)
        | (refine aIf_f ?_; conv => whnf)
        | (refine fun (_ : _ ≤ maxLen) => ?_; conv => whnf)
        | (refine aGet_in rfl ?_; conv => whnf)
        | (refine callG_t ?_; conv => whnf)
        | (refine append_same ?_; conv => whnf)
        | (refine And.intro (pureL_ints _ _) ?_; conv => whnf)
        | (refine cut_ints ?_; conv => whnf)
        | (refine iPlaceAt_call (by omega) ?_; conv => whnf)
        | (refine iJoin_call ?_; conv => whnf)
        | (refine sameNums_call ?_; conv => whnf)
        | (refine aIf_tt (by assumption) ?_; conv => whnf)
        | refine aIf_eqf ?_
        | refine aIf_not ?_
        | (refine aIf_dec (fun _ => ?_) (fun _ => ?_) <;> conv => whnf))
      all_goals (first
        | contradiction
        | (rename_i h; rw [hj] at h; exact Bool.noConfusion h)
        | (rename_i h; rw [hok] at h; exact Bool.noConfusion h)
        | skip)
      rw [hpa.1]
      refine loop_in (ι := Nat) (fun k => ⟨[.sl c xs.length (xs.map (.int .i64)), .sl d ys.length (ys.map (.int .i64)), .int .i64 i, .un, .un, .un, .un, .un, .un, .ref 1 3 0 (places ys i).length, .un, .int .i64 (IntKind.i64.wrap ((ys.length : Int) - (xs.length : Int))), .int .i64 (idxTo xs (px xs ys i) k), .un, .un, .un, .un, .un, .un, .un, .un, .un, .un, .un, .un, .un, .un, .un, .un, .un, .un, .un, .un, .un, .un, .un, .un, .un, .un, .un, .un, .un, .sl c xs.length (xs.map (.int .i64)), .int .i64 xs.length, .int .i64 k, .un, .un, .un, .un, .un, .un, .un, .un, .un, .un, .un, .un, .un, .un, .un, .un, .un, .un, .un], [⟨1, 3, 1, (jL xs ys).map (.int .i64)⟩, ⟨3, 3, 1, (places ys i).map (.int .i64)⟩], 4, 0⟩)
        (fun k => k ≤ xs.length) (fun k => xs.length - k) 0 (Nat.zero_le _) ?_ ?_
      · repeat' (first
          | exact trivial
          | exact rfl
          | exact pureL_ints _ _
          | exact le_ints rfl
          | refine And.intro ?_ ?_
          | exact Nat.le_of_ble_eq_true rfl)
      · intro k hk
        have hk : k ≤ xs.length := hk
        have hw1 : IntKind.i64.wrap ((ys.length : Int) - (xs.length : Int)) = (ys.length : Int) - (xs.length : Int) := IntWalk.i64_in _ (by omega)
        have hw2 : IntKind.i64.wrap (IntKind.i64.wrap ((ys.length : Int) - (xs.length : Int)) + (k : Int)) = (ys.length : Int) - (xs.length : Int) + (k : Int) := by rw [hw1]; exact IntWalk.i64_in _ (by omega)
        have hi : (IntKind.i64.wrap (IntKind.i64.wrap ((ys.length : Int) - (xs.length : Int)) + (k : Int))).toNat = ys.length - xs.length + k := by rw [hw2]; omega
        by_cases hkx : k < xs.length
        · have hp := px_getD (ys := ys) (i := i) hkx
          conv => whnf
          repeat' (first
            | (refine get_int0 (by omega) ?_; conv => whnf)
            | (refine get_nat (by omega) ?_; conv => whnf)
            | (refine And.intro (by omega) ?_; conv => whnf)
            | (refine append_same ?_; conv => whnf)
            | (refine aIf_dec (fun _ => ?_) (fun _ => ?_) <;> conv => whnf))
          all_goals (first | (exfalso; omega) | skip)
          · have hp : (px xs ys i).getD k 0 = (places ys i).getD (ys.length - xs.length + k) 0 := by rw [hp, if_pos (by omega)]
            have e2 : idxTo xs (px xs ys i) (k + 1) = IntKind.i64.wrap (IntKind.i64.wrap (idxTo xs (px xs ys i) k * xs.getD k 0) + (places ys i).getD (ys.length - xs.length + k) 0) := by rw [idxTo, hp]
            rw [hi]
            simp only [Nat.mul_one]
            rw [← e2]
            refine next_in (k + 1) (show xs.length - (k + 1) < xs.length - k by omega) (by omega) ?_
            repeat' (first
              | exact trivial
              | exact rfl
              | exact pureL_ints _ _
              | exact le_ints rfl
              | refine And.intro ?_ ?_
              | exact Nat.le_of_ble_eq_true rfl
              | exact int_eq (by rw [IntWalk.i64_in _ (by omega)] <;> omega))
          · have hp : (px xs ys i).getD k 0 = 0 := by rw [hp, if_neg (by omega)]
            have e2 : idxTo xs (px xs ys i) (k + 1) = IntKind.i64.wrap (idxTo xs (px xs ys i) k * xs.getD k 0) := by rw [idxTo, hp]; exact wrap_add0 _
            rw [← e2]
            refine next_in (k + 1) (show xs.length - (k + 1) < xs.length - k by omega) (by omega) ?_
            repeat' (first
              | exact trivial
              | exact rfl
              | exact pureL_ints _ _
              | exact le_ints rfl
              | refine And.intro ?_ ?_
              | exact Nat.le_of_ble_eq_true rfl
              | exact int_eq (by rw [IntWalk.i64_in _ (by omega)] <;> omega))
        · have e : k = xs.length := by omega
          subst e
          conv => whnf
          repeat' (first
            | (refine get_nat0 (by omega) ?_; conv => whnf)
            | (refine get_nat (by omega) ?_; conv => whnf)
            | (refine And.intro (by omega) ?_; conv => whnf)
            | (refine append_same ?_; conv => whnf)
            | (refine aIf_dec (fun _ => ?_) (fun _ => ?_) <;> conv => whnf))
          all_goals (first | (exfalso; omega) | exact retS rfl (int_eq (spread_t hj he hi')))
    · have hok : paOk ys i = false := (pa_f (fun h => hi' h.2)).2.symm
      conv => whnf
      repeat' (first
        | (refine aIf_t ?_; conv => whnf)
        | (refine aIf_f ?_; conv => whnf)
        | (refine aGet_in rfl ?_; conv => whnf)
        | (refine callG_t ?_; conv => whnf)
        | (refine append_same ?_; conv => whnf)
        | (refine And.intro (pureL_ints _ _) ?_; conv => whnf)
        | (refine cut_ints ?_; conv => whnf)
        | (refine iPlaceAt_call (by omega) ?_; conv => whnf)
        | (refine iJoin_call ?_; conv => whnf)
        | (refine sameNums_call ?_; conv => whnf)
        | (refine aIf_tt (by assumption) ?_; conv => whnf)
        | (refine aIf_ff (by assumption) ?_; conv => whnf)
        | refine aIf_eqf ?_
        | refine aIf_not ?_
        | (refine aIf_dec (fun _ => ?_) (fun _ => ?_) <;> conv => whnf))
      all_goals (first
        | contradiction
        | exact retS rfl (int_eq (spread_f (fun h => hi' h.2.2)))
        | (rename_i h; rw [hj] at h; exact Bool.noConfusion h)
        | (exfalso; have h : paOk ys i = true := (by assumption); rw [hok] at h; exact Bool.noConfusion h))
  · conv => whnf
    repeat' (first
      | (refine aIf_t ?_; conv => whnf)
      | (refine aIf_f ?_; conv => whnf)
      | (refine fun (_ : _ ≤ maxLen) => ?_; conv => whnf)
      | (refine aGet_in rfl ?_; conv => whnf)
      | (refine callG_t ?_; conv => whnf)
      | (refine append_same ?_; conv => whnf)
      | (refine And.intro (pureL_ints _ _) ?_; conv => whnf)
      | (refine cut_ints ?_; conv => whnf)
      | (refine iPlaceAt_call (by omega) ?_; conv => whnf)
      | (refine iJoin_call ?_; conv => whnf)
      | (refine sameNums_call ?_; conv => whnf)
      | refine aIf_eqf ?_
      | refine aIf_not ?_
      | (refine aIf_dec (fun _ => ?_) (fun _ => ?_) <;> conv => whnf)
      | (refine aIf_in (fun _ => ?_) (fun _ => ?_) <;> conv => whnf))
    all_goals (first
      | exact retS rfl (int_eq (spread_f (fun h => hs ⟨h.1, h.2.1⟩)))
      | exact absurd ⟨by assumption, by assumption⟩ hs
     )
theorem iSpreadIndex_call {c d : Nat} {xs ys : List Int} {i : Int} {env : List AV} {rows : List Row} {ctr low : Nat} {k : AV → St → Prop} (hpre : ys.length ≤ 1048576) (h : k (.int .i64 (spread xs ys i)) ⟨env, rows, ctr + 1, low⟩) :
    CallB Try.prog 69 ⟨env, rows, ctr, low⟩ [.sl c xs.length (xs.map (.int .i64)), .sl d ys.length (ys.map (.int .i64)), .int .i64 i] k := callS_in iSpreadIndex_sound (c, xs, d, ys, i) hpre rfl h
end Go.Proofs.Ytjmdhfjemaoebaa
