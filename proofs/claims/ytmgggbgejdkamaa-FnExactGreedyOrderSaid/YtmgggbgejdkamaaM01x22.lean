import Derived.Test.YtmgggbgejdkamaaM01x18
import Derived.Test.YtmgggbgejdkamaaM01x17
import Derived.Test.YtmgggbgejdkamaaM01x13
import Derived.Test.YtmgggbgejdkamaaM01x16
import Derived.Test.YtmgggbgejdkamaaV10
/- Sums of places times steps. -/
namespace Go.Proofs.Ytmgggbgejdkamaa
set_option maxRecDepth 20000
open Go.RowKit Go.Am

def dotTo (ps ss : List Int) : Nat → Int
  | 0 => 0
  | k + 1 => dotTo ps ss k + ps.getD k 0 * ss.getD k 0
theorem mul_in {a b : Int} (ha : 0 ≤ a ∧ a ≤ 3) (hb : 0 ≤ b ∧ b ≤ 64) : 0 ≤ a * b ∧ a * b ≤ 192 := by
  have h1 := Int.mul_le_mul ha.2 hb.2 hb.1 (by omega)
  exact ⟨Int.mul_nonneg ha.1 hb.1, by omega⟩
theorem dot_in {ps ss : List Int} {n : Nat} (hp : ∀ j, j < n → 0 ≤ ps.getD j 0 ∧ ps.getD j 0 ≤ 3) (hs : ∀ j, j < n → 0 ≤ ss.getD j 0 ∧ ss.getD j 0 ≤ 64) : ∀ k, k ≤ n → 0 ≤ dotTo ps ss k ∧ dotTo ps ss k ≤ 192 * k
  | 0, _ => ⟨Int.le_refl 0, Int.le_refl 0⟩
  | k + 1, hk => by
    have ih := dot_in hp hs k (by omega)
    have h1 := mul_in (hp k (by omega)) (hs k (by omega))
    show 0 ≤ dotTo ps ss k + _ ∧ dotTo ps ss k + _ ≤ _
    omega
theorem dot_mono {ps ss : List Int} {n : Nat} (hp : ∀ j, j < n → 0 ≤ ps.getD j 0 ∧ ps.getD j 0 ≤ 3) (hs : ∀ j, j < n → 0 ≤ ss.getD j 0 ∧ ss.getD j 0 ≤ 64) {q : Nat} : ∀ d, q + d ≤ n → dotTo ps ss q ≤ dotTo ps ss (q + d)
  | 0, _ => Int.le_refl _
  | d + 1, hd => by
    have ih := dot_mono hp hs d (q := q) (by omega)
    have h1 := mul_in (hp (q + d) (by omega)) (hs (q + d) (by omega))
    have e : dotTo ps ss (q + (d + 1)) = dotTo ps ss (q + d) + ps.getD (q + d) 0 * ss.getD (q + d) 0 := rfl
    omega

/-- Strides are what they are without overflow. -/
theorem str_bound {zs : List Int} (hs : shapeOk zs = true) : ∀ m, m ≤ zs.length → 1 ≤ strT zs m ∧ strT zs m ≤ 4 ^ m
  | 0, _ => ⟨Int.le_refl _, Int.le_refl _⟩
  | m + 1, hm => by
    obtain ⟨h1, h2⟩ := str_bound hs m (by omega)
    have h5 := size_in hs (j := zs.length - 1 - m) (by omega)
    have h3 := ((shapeOk_iff zs).1 hs).1
    have hp := pow4 (n := m) (by omega)
    have a1 : 1 * 1 ≤ strT zs m * zs.getD (zs.length - 1 - m) 0 := Int.mul_le_mul h1 h5.1 (by decide) (by omega)
    have a2 : strT zs m * zs.getD (zs.length - 1 - m) 0 ≤ 4 ^ m * 4 := Int.mul_le_mul h2 h5.2 (by omega) (by omega)
    have e := strT_next (zs := zs) (q := zs.length - (m + 1)) (by omega)
    rw [show zs.length - (zs.length - (m + 1)) = m + 1 by omega, show zs.length - (zs.length - (m + 1) + 1) = m by omega, show zs.length - (m + 1) = zs.length - 1 - m by omega] at e
    rw [IntWalk.i64_in _ (by omega)] at e
    rw [e, Int.pow_succ]
    exact ⟨by omega, a2⟩
theorem str_in {zs : List Int} (hs : shapeOk zs = true) {m : Nat} (hm : m ≤ zs.length) : 1 ≤ strT zs m ∧ strT zs m ≤ 64 := by
  have h1 := str_bound hs m hm
  have h3 := ((shapeOk_iff zs).1 hs).1
  have hp := pow4 (n := m) (by omega)
  omega
theorem str_next {zs : List Int} (hs : shapeOk zs = true) {k : Nat} (hk : k < zs.length) : strT zs (zs.length - k) = strT zs (zs.length - (k + 1)) * zs.getD k 0 := by
  have h1 := str_in hs (m := zs.length - (k + 1)) (by omega)
  have h2 := size_in hs hk
  have h3 := mul_le4 (a := strT zs (zs.length - (k + 1))) (x := zs.getD k 0) (by omega) (by omega)
  rw [strT_next (by omega)]
  exact IntWalk.i64_in _ (by omega)
theorem strides_in {zs : List Int} (hs : shapeOk zs = true) {j : Nat} (hj : j < zs.length) : 1 ≤ (strides zs).getD j 0 ∧ (strides zs).getD j 0 ≤ 64 := by
  rw [strides_getD hj]; exact str_in hs (by omega)

/-- An index is the sum of the places times the strides. -/
theorem idx_dot_k {xs ps : List Int} (hs : shapeOk xs = true) (hp : ∀ j, j < xs.length → 0 ≤ ps.getD j 0 ∧ ps.getD j 0 < xs.getD j 0) : ∀ k, k ≤ xs.length → idxTo xs ps k * strT xs (xs.length - k) = dotTo ps (strides xs) k
  | 0, _ => by show 0 * _ = 0; exact Int.zero_mul _
  | k + 1, hk => by
    have ih := idx_dot_k hs hp k (by omega)
    have hr := idx_range hs hp k (by omega)
    rw [idx_next hs (by omega) hr (hp k (by omega)), Int.add_mul, Int.mul_assoc, Int.mul_comm (xs.getD k 0), ← str_next hs (by omega), ih]
    show _ = dotTo ps (strides xs) k + ps.getD k 0 * (strides xs).getD k 0
    rw [strides_getD (by omega), show xs.length - 1 - k = xs.length - (k + 1) by omega]
theorem idx_dot {xs ps : List Int} (hs : shapeOk xs = true) (hp : ∀ j, j < xs.length → 0 ≤ ps.getD j 0 ∧ ps.getD j 0 < xs.getD j 0) : idxTo xs ps xs.length = dotTo ps (strides xs) xs.length := by
  have h := idx_dot_k hs hp xs.length (Nat.le_refl _)
  rw [Nat.sub_self] at h
  have e : strT xs 0 = 1 := rfl
  rw [e, Int.mul_one] at h
  exact h
theorem places_in {zs : List Int} {i : Int} (hs : shapeOk zs = true) (hi : 0 ≤ i ∧ i < cntTo zs zs.length) {j : Nat} (hj : j < zs.length) : 0 ≤ (places zs i).getD j 0 ∧ (places zs i).getD j 0 ≤ 3 := by
  have h1 := place_in hs hi hj
  have h2 := size_in hs hj
  omega

/-- What is read of numbers, by steps. -/
def rdAt (shape steps : List Int) (start : Int) (i : Nat) : Int := start + dotTo (places shape i) steps shape.length
def rdL (nums shape steps : List Int) (start : Int) : List Int := (List.range (cntTo shape shape.length).toNat).map fun i => nums.getD (rdAt shape steps start i).toNat 0
theorem rdL_length (nums shape steps : List Int) (start : Int) : (rdL nums shape steps start).length = (cntTo shape shape.length).toNat := by simp [rdL]
theorem range_getD {n : Nat} {f : Nat → Int} {j : Nat} (h : j < n) : ((List.range n).map f).getD j 0 = f j := by
  simp [List.getD, List.getElem?_map, List.getElem?_range h]
theorem rdL_getD {nums shape steps : List Int} {start : Int} {j : Nat} (h : j < (cntTo shape shape.length).toNat) : (rdL nums shape steps start).getD j 0 = nums.getD (rdAt shape steps start j).toNat 0 := range_getD h
end Go.Proofs.Ytmgggbgejdkamaa

/- All shapes that there are. -/
namespace Go.Proofs.Ytmgggbgejdkamaa
set_option maxRecDepth 20000
open Go.RowKit Go.Am

def sizes : List Int := [1, 2, 3, 4]
def shapes3 (a : Int) : List (List Int) := sizes.flatMap fun b => sizes.map fun c => [a, b, c]
def shapes2 : List (List Int) := [] :: (sizes.map fun a => [a]) ++ (sizes.flatMap fun a => sizes.map fun b => [a, b])
theorem size_mem {z : Int} (h : 1 ≤ z ∧ z ≤ 4) : z ∈ sizes := by
  have : z = 1 ∨ z = 2 ∨ z = 3 ∨ z = 4 := by omega
  simpa [sizes] using this
theorem shape_all {p : List Int → Bool} (h2 : shapes2.all p = true) (h31 : (shapes3 1).all p = true) (h32 : (shapes3 2).all p = true) (h33 : (shapes3 3).all p = true) (h34 : (shapes3 4).all p = true) {xs : List Int} (h : shapeOk xs = true) : p xs = true := by
  have hl := ((shapeOk_iff xs).1 h).1
  have hs : ∀ z ∈ xs, z ∈ sizes := fun z hz => by
    obtain ⟨j, hj, rfl⟩ := List.mem_iff_getElem.1 hz
    have := size_in h hj
    simp only [List.getD, List.getElem?_eq_getElem hj, Option.getD_some] at this
    exact size_mem this
  rw [List.all_eq_true] at h2 h31 h32 h33 h34
  match xs, hl, hs with
  | [], _, _ => exact h2 _ (by simp [shapes2])
  | [a], _, hs =>
    have ha := hs a (by simp)
    exact h2 _ (by simp [shapes2, ha])
  | [a, b], _, hs =>
    have ha := hs a (by simp)
    have hb := hs b (by simp)
    exact h2 _ (by simp [shapes2, ha, hb])
  | [a, b, c], _, hs =>
    have ha := hs a (by simp)
    have hb := hs b (by simp)
    have hc := hs c (by simp)
    have hm : [a, b, c] ∈ shapes3 a := by
      unfold shapes3
      rw [List.mem_flatMap]
      exact ⟨b, hb, List.mem_map.2 ⟨c, hc, rfl⟩⟩
    have h4 : a = 1 ∨ a = 2 ∨ a = 3 ∨ a = 4 := by simpa [sizes] using ha
    rcases h4 with rfl | rfl | rfl | rfl
    · exact h31 _ hm
    · exact h32 _ hm
    · exact h33 _ hm
    · exact h34 _ hm
  | _ :: _ :: _ :: _ :: _, hl, _ => simp only [List.length_cons] at hl; omega
end Go.Proofs.Ytmgggbgejdkamaa

/- Chapter 2: lists without an axis; what is told of a tensor. -/
namespace Go.Proofs.Ytmgggbgejdkamaa
set_option maxRecDepth 20000
open Go.RowKit Go.Am
/-- Two rows of numbers are told as a tensor, if they are one. -/
def toldPost (t : TypeId) (xs zs : List Int) (r : AV) (ic : List (List AV)) (news : List Row) : Prop :=
  ic = [xs.map (.int .i64), zs.map (.int .i64)] ∧ ((tensorOk xs zs = true ∧ r = .tup [.agg [.ref 0 0 0 xs.length, .ref 1 0 0 zs.length], .bool true] ∧ news = []) ∨
    (tensorOk xs zs = false ∧ r = .tup [.agg [.ref 2 0 0 0, .ref 3 0 0 0], .bool false] ∧ news = [rowL t [], rowL t []]))
def sTold : CSpec := { ι := List Int × List Int, inout := [true], args := fun x => [.agg [.ref 0 0 0 x.1.length, .ref 1 0 0 x.2.length]], ins := fun x => [⟨0, 3, 1, x.1.map (.int .i64)⟩, ⟨0, 3, 1, x.2.map (.int .i64)⟩], pre := fun _ => True, post := fun x => toldPost 3 x.1 x.2 }
def sOrNone : CSpec := { ι := List Int × List Int, inout := [true, true], args := fun x => [.ref 0 0 0 x.1.length, .ref 1 0 0 x.2.length], ins := fun x => [⟨0, 3, 1, x.1.map (.int .i64)⟩, ⟨0, 3, 1, x.2.map (.int .i64)⟩], pre := fun _ => True, post := fun x => toldPost 3 x.1 x.2 }
theorem toldCall {f : FuncId} {sp : CSpec} {env : List AV} {rows : List Row} {ctr low τ1 τ2 v1 v2 : Nat} {args : List AV} {k : AV → St → Prop} (xs zs : List Int) (x : sp.ι) (hs : Sound Try.prog f sp) (hpre : sp.pre x) (hins : sp.ins x = [⟨0, 3, 1, xs.map (.int .i64)⟩, ⟨0, 3, 1, zs.map (.int .i64)⟩]) (hpost : sp.post x = toldPost 3 xs zs)
    (h1 : rows[τ1]? = some ⟨v1, 3, 1, xs.map (.int .i64)⟩) (h2 : rows[τ2]? = some ⟨v2, 3, 1, zs.map (.int .i64)⟩) (hne : τ1 ≠ τ2) (ha : callArgs ⟨env, rows, ctr, low⟩ [τ1, τ2] sp.inout args = some (sp.args x))
    (ht : tensorOk xs zs = true → k (.tup [.agg [.ref τ1 v1 0 xs.length, .ref τ2 v2 0 zs.length], .bool true]) ⟨env, setRows rows [τ1, τ2] [xs.map (.int .i64), zs.map (.int .i64)], ctr + 1, low⟩)
    (hf : tensorOk xs zs = false → k (.tup [.agg [.ref rows.length ctr 0 0, .ref (rows.length + 1) ctr 0 0], .bool false]) ⟨env, setRows rows [τ1, τ2] [xs.map (.int .i64), zs.map (.int .i64)] ++ [⟨ctr, 3, 1, []⟩, ⟨ctr, 3, 1, []⟩], ctr + 1, low⟩) :
    CallG Try.prog f ⟨env, rows, ctr, low⟩ args k := by
  refine .inr ⟨[τ1, τ2], sp, hs, sp.args x, _, by simpa using hne, ha, ?_, x, rfl, hins.symm, hpre, ?_⟩
  · simp [insOf, h1, h2, protL_ren (protL_ints .i64 xs), protL_ren (protL_ints .i64 zs)]
  · rw [hpost]
    rintro r ic news ⟨rfl, ⟨e, rfl, rfl⟩ | ⟨e, rfl, rfl⟩⟩ _
    · have := ht e
      simpa [St.after, St.news, AV.back, Go.Am.backL, backT, backV, verOf, h1, h2, protL_back (protL_ints .i64 xs), protL_back (protL_ints .i64 zs)] using this
    · have := hf e
      simpa [St.after, St.news, AV.back, Go.Am.backL, backT, backV, verOf, h1, h2, protL_back (protL_ints .i64 xs), protL_back (protL_ints .i64 zs), Nat.add_comm] using this
attribute [local irreducible] aPlan aGet aIf aLoop aCall RetB NextB CallB CallG aCut aSet aAppend

def wo (xs : List Int) (a : Nat) : List Int := xs.take a ++ xs.drop (a + 1)
theorem wo_length {xs : List Int} {a : Nat} (h : a < xs.length) : (wo xs a).length = xs.length - 1 := by simp [wo]; omega
theorem map_cut (xs : List Int) (l m : Nat) : ((xs.map (AV.int .i64)).drop l).take m = ((xs.drop l).take m).map (.int .i64) := by simp
theorem l2Nums_cut {c n : Nat} {zs : List Int} {cells : List AV} {env : List AV} {rows : List Row} {ctr low : Nat} {k : AV → St → Prop} (hc : cells = zs.map (.int .i64)) (hn : n = zs.length) (hpre : zs.length ≤ 1048576) (h : k (.ref rows.length ctr 0 zs.length) ⟨env, rows ++ [⟨ctr, 3, 1, zs.map (.int .i64)⟩], ctr + 1, low⟩) :
    CallB Try.prog 98 ⟨env, rows, ctr, low⟩ [.sl c n cells] k := by
  subst hc; subst hn; exact l2Nums_call hpre h
theorem copyNums_cut {c n : Nat} {zs : List Int} {cells : List AV} {env : List AV} {rows : List Row} {ctr low : Nat} {k : AV → St → Prop} (hc : cells = zs.map (.int .i64)) (hn : n = zs.length) (hpre : zs.length ≤ 1048576) (h : k (.ref rows.length ctr 0 zs.length) ⟨env, rows ++ [⟨ctr, 3, 1, zs.map (.int .i64)⟩], ctr + 1, low⟩) :
    CallB Try.prog 86 ⟨env, rows, ctr, low⟩ [.sl c n cells] k := by
  subst hc; subst hn; exact copyNums_call hpre h
set_option maxRecDepth 10000 in
theorem l2Told_sound : Sound Try.prog 78 sTold := by
  refine sound_of Try.func78 rfl (enters_of Try.func78 (by kernel_rfl) (by kernel_rfl)) ?_
  rintro ⟨xs, zs⟩ -
  rcases tensor_or xs zs with ⟨ht, hx, hz⟩ | ht
  · conv => whnf
    dsimp only
    repeat' (first
      | (refine load_same ?_; conv => whnf)
      | (refine And.intro rfl (And.intro (List.cons_ne_nil _ _) ?_); conv => whnf)
      | (refine And.intro (Nat.le_of_ble_eq_true rfl) ?_; conv => whnf)
      | (refine callG_t ?_; conv => whnf)
      | (refine sTensorOk_call ?_; conv => whnf)
      | (refine append_same ?_; conv => whnf)
      | (refine takeN_in ?_; conv => whnf)
      | (refine cut_ints ?_; conv => whnf)
      | (refine set_force ?_; conv => whnf)
      | (refine And.intro (by kernel_rfl) ?_; conv => whnf)
      | (refine aIf_tt (by assumption) ?_; conv => whnf)
      | refine aIf_not ?_)
    exact retKeep2 (xs := xs) (zs := zs) ⟨rfl, .inl ⟨ht, rfl, rfl⟩⟩
  · conv => whnf
    dsimp only
    repeat' (first
      | (refine load_same ?_; conv => whnf)
      | (refine And.intro rfl (And.intro (List.cons_ne_nil _ _) ?_); conv => whnf)
      | (refine And.intro (Nat.le_of_ble_eq_true rfl) ?_; conv => whnf)
      | (refine callG_t ?_; conv => whnf)
      | (refine sTensorOk_call ?_; conv => whnf)
      | (refine append_same ?_; conv => whnf)
      | (refine takeN_in ?_; conv => whnf)
      | (refine cut_ints ?_; conv => whnf)
      | (refine set_force ?_; conv => whnf)
      | (refine And.intro (by kernel_rfl) ?_; conv => whnf)
      | (refine aIf_ff (by assumption) ?_; conv => whnf)
      | refine aIf_not ?_)
    refine retNew2 (xs := xs) (zs := zs) (ps := []) (qs := []) ?_ ?_ ?_ ⟨rfl, .inr ⟨ht, rfl, rfl⟩⟩
    all_goals (first | exact rfl | decide)
set_option maxRecDepth 10000 in
theorem orNone_sound : Sound Try.prog 83 sOrNone := by
  refine sound_of Try.func83 rfl (enters_of Try.func83 (by kernel_rfl) (by kernel_rfl)) ?_
  rintro ⟨xs, zs⟩ -
  rcases tensor_or xs zs with ⟨ht, hx, hz⟩ | ht
  · conv => whnf
    dsimp only
    repeat' (first
      | (refine load_same ?_; conv => whnf)
      | (refine And.intro (Nat.le_of_ble_eq_true rfl) ?_; conv => whnf)
      | (refine callG_t ?_; conv => whnf)
      | (refine iTensorOk_call ?_; conv => whnf)
      | (refine append_same ?_; conv => whnf)
      | (refine takeN_in ?_; conv => whnf)
      | (refine cut_ints ?_; conv => whnf)
      | (refine set_force ?_; conv => whnf)
      | (refine And.intro (by kernel_rfl) ?_; conv => whnf)
      | (refine aIf_tt (by assumption) ?_; conv => whnf)
      | refine aIf_not ?_)
    exact retKeep2 (xs := xs) (zs := zs) ⟨rfl, .inl ⟨ht, rfl, rfl⟩⟩
  · conv => whnf
    dsimp only
    repeat' (first
      | (refine load_same ?_; conv => whnf)
      | (refine And.intro (Nat.le_of_ble_eq_true rfl) ?_; conv => whnf)
      | (refine callG_t ?_; conv => whnf)
      | (refine iTensorOk_call ?_; conv => whnf)
      | (refine append_same ?_; conv => whnf)
      | (refine takeN_in ?_; conv => whnf)
      | (refine cut_ints ?_; conv => whnf)
      | (refine set_force ?_; conv => whnf)
      | (refine And.intro (by kernel_rfl) ?_; conv => whnf)
      | (refine aIf_ff (by assumption) ?_; conv => whnf)
      | refine aIf_not ?_)
    refine retNew2 (xs := xs) (zs := zs) (ps := []) (qs := []) ?_ ?_ ?_ ⟨rfl, .inr ⟨ht, rfl, rfl⟩⟩
    all_goals (first | exact rfl | decide)

theorem orNone_call {env : List AV} {rows : List Row} {ctr low τ1 τ2 v1 v2 n1 n2 : Nat} {k : AV → St → Prop} (xs zs : List Int)
    (h1 : rows[τ1]? = some ⟨v1, 3, 1, xs.map (.int .i64)⟩) (h2 : rows[τ2]? = some ⟨v2, 3, 1, zs.map (.int .i64)⟩) (hne : τ1 ≠ τ2) (e1 : n1 = xs.length) (e2 : n2 = zs.length)
    (ht : tensorOk xs zs = true → k (.tup [.agg [.ref τ1 v1 0 xs.length, .ref τ2 v2 0 zs.length], .bool true]) ⟨env, setRows rows [τ1, τ2] [xs.map (.int .i64), zs.map (.int .i64)], ctr + 1, low⟩)
    (hf : tensorOk xs zs = false → k (.tup [.agg [.ref rows.length ctr 0 0, .ref (rows.length + 1) ctr 0 0], .bool false]) ⟨env, setRows rows [τ1, τ2] [xs.map (.int .i64), zs.map (.int .i64)] ++ [⟨ctr, 3, 1, []⟩, ⟨ctr, 3, 1, []⟩], ctr + 1, low⟩) :
    CallG Try.prog 83 ⟨env, rows, ctr, low⟩ [.ref τ1 v1 0 n1, .ref τ2 v2 0 n2] k := by
  subst e1; subst e2
  refine toldCall xs zs (sp := sOrNone) (xs, zs) orNone_sound trivial rfl rfl h1 h2 hne ?_ ht hf
  have hb : (τ1 == τ2) = false := by simpa using hne
  have a1 : callArg ⟨env, rows, ctr, low⟩ [τ1, τ2] true (.ref τ1 v1 0 xs.length) = some (.ref 0 0 0 xs.length) := by simp [callArg, AV.ren, h1, List.idxOf, List.findIdx_cons]
  have a2 : callArg ⟨env, rows, ctr, low⟩ [τ1, τ2] true (.ref τ2 v2 0 zs.length) = some (.ref 1 0 0 zs.length) := by simp [callArg, AV.ren, h2, List.idxOf, List.findIdx_cons, hb]
  show (callArg ⟨env, rows, ctr, low⟩ [τ1, τ2] true (.ref τ1 v1 0 xs.length)).bind (fun u' => ((callArg ⟨env, rows, ctr, low⟩ [τ1, τ2] true (.ref τ2 v2 0 zs.length)).bind fun u'' => some [u'']).map (u' :: ·)) = _
  rw [a1, a2]
  rfl
theorem l2Told_call {env : List AV} {rows : List Row} {ctr low τ1 τ2 v1 v2 n1 n2 : Nat} {k : AV → St → Prop} (xs zs : List Int)
    (h1 : rows[τ1]? = some ⟨v1, 3, 1, xs.map (.int .i64)⟩) (h2 : rows[τ2]? = some ⟨v2, 3, 1, zs.map (.int .i64)⟩) (hne : τ1 ≠ τ2) (e1 : n1 = xs.length) (e2 : n2 = zs.length)
    (ht : tensorOk xs zs = true → k (.tup [.agg [.ref τ1 v1 0 xs.length, .ref τ2 v2 0 zs.length], .bool true]) ⟨env, setRows rows [τ1, τ2] [xs.map (.int .i64), zs.map (.int .i64)], ctr + 1, low⟩)
    (hf : tensorOk xs zs = false → k (.tup [.agg [.ref rows.length ctr 0 0, .ref (rows.length + 1) ctr 0 0], .bool false]) ⟨env, setRows rows [τ1, τ2] [xs.map (.int .i64), zs.map (.int .i64)] ++ [⟨ctr, 3, 1, []⟩, ⟨ctr, 3, 1, []⟩], ctr + 1, low⟩) :
    CallG Try.prog 78 ⟨env, rows, ctr, low⟩ [.agg [.ref τ1 v1 0 n1, .ref τ2 v2 0 n2]] k := by
  subst e1; subst e2
  refine toldCall xs zs (sp := sTold) (xs, zs) l2Told_sound trivial rfl rfl h1 h2 hne ?_ ht hf
  have hb : (τ1 == τ2) = false := by simpa using hne
  have a1 : callArg ⟨env, rows, ctr, low⟩ [τ1, τ2] true (.agg [.ref τ1 v1 0 xs.length, .ref τ2 v2 0 zs.length]) = some (.agg [.ref 0 0 0 xs.length, .ref 1 0 0 zs.length]) := by simp [callArg, AV.ren, Go.Am.renL, h1, h2, List.idxOf, List.findIdx_cons, hb]
  show (callArg ⟨env, rows, ctr, low⟩ [τ1, τ2] true (.agg [.ref τ1 v1 0 xs.length, .ref τ2 v2 0 zs.length])).bind (fun u' => some [u']) = _
  rw [a1]
  rfl
end Go.Proofs.Ytmgggbgejdkamaa

/- What is reckoned over all shapes and axes: where a number goes when it is summed. -/
namespace Go.Proofs.Ytmgggbgejdkamaa
set_option maxRecDepth 20000
open Go.RowKit Go.Am

def stpA (xs : List Int) (a : Nat) : Int := (strides xs).getD a 0
def blkA (xs : List Int) (a : Nat) : Int := stpA xs a * xs.getD a 0
def sumI (xs : List Int) (a k : Nat) : Int := (k : Int).tdiv (blkA xs a) * stpA xs a + (k : Int).tmod (stpA xs a)
def sumS (xs : List Int) (a k : Nat) : Int := idxTo (wo xs a) (wo (places xs k) a) (wo xs a).length
def cntM (xs : List Int) : Nat := (cntTo xs xs.length).toNat
def sumChk (xs : List Int) : Bool := (List.range xs.length).all fun a => shapeOk (wo xs a) && ((cntTo xs xs.length).tdiv (xs.getD a 0) == cntTo (wo xs a) (wo xs a).length) && decide (blkA xs a ≤ 64) && decide (1 ≤ blkA xs a) &&
  (List.range (cntM xs)).all fun k => decide (0 ≤ sumI xs a k) && decide (sumI xs a k < cntTo (wo xs a) (wo xs a).length) && (sumI xs a k == sumS xs a k) && decide (0 ≤ (k : Int).tdiv (blkA xs a) * stpA xs a) && decide ((k : Int).tdiv (blkA xs a) * stpA xs a ≤ 64)
theorem sumChk_2 : shapes2.all sumChk = true := by kernel_rfl
theorem sumChk_31 : (shapes3 1).all sumChk = true := by kernel_rfl
theorem sumChk_32 : (shapes3 2).all sumChk = true := by kernel_rfl
theorem sumChk_33 : (shapes3 3).all sumChk = true := by kernel_rfl
theorem sumChk_34 : (shapes3 4).all sumChk = true := by kernel_rfl
structure SumFacts (xs : List Int) (a : Nat) : Prop where
  sh : shapeOk (wo xs a) = true
  cnt : (cntTo xs xs.length).tdiv (xs.getD a 0) = cntTo (wo xs a) (wo xs a).length
  blk : 1 ≤ blkA xs a ∧ blkA xs a ≤ 64
  at_ : ∀ k : Nat, (k : Int) < cntTo xs xs.length → (0 ≤ sumI xs a k ∧ sumI xs a k < cntTo (wo xs a) (wo xs a).length) ∧ sumI xs a k = sumS xs a k ∧ 0 ≤ (k : Int).tdiv (blkA xs a) * stpA xs a ∧ (k : Int).tdiv (blkA xs a) * stpA xs a ≤ 64
theorem sum_facts {xs : List Int} (hs : shapeOk xs = true) {a : Nat} (ha : a < xs.length) : SumFacts xs a := by
  have h := shape_all sumChk_2 sumChk_31 sumChk_32 sumChk_33 sumChk_34 hs
  unfold sumChk at h
  rw [List.all_eq_true] at h
  have h := h a (List.mem_range.2 ha)
  simp only [Bool.and_eq_true, decide_eq_true_eq, beq_iff_eq, List.all_eq_true] at h
  obtain ⟨⟨⟨⟨h1, h2⟩, h3⟩, h4⟩, h5⟩ := h
  have hc := cnt64 hs (Nat.le_refl _)
  refine ⟨h1, h2, ⟨h4, h3⟩, fun k hk => ?_⟩
  obtain ⟨⟨⟨⟨a1, a2⟩, a3⟩, a4⟩, a5⟩ := h5 k (List.mem_range.2 (by unfold cntM; omega))
  exact ⟨⟨a1, a2⟩, a3, a4, a5⟩

/-- Sums, number by number. -/
def smTo (xs zs : List Int) (a : Nat) : Nat → List Int
  | 0 => List.replicate (cntTo (wo xs a) (wo xs a).length).toNat 0
  | k + 1 => (smTo xs zs a k).set (sumI xs a k).toNat (IntKind.i64.wrap ((smTo xs zs a k).getD (sumI xs a k).toNat 0 + zs.getD k 0))
theorem smTo_length (xs zs : List Int) (a : Nat) : ∀ k, (smTo xs zs a k).length = (cntTo (wo xs a) (wo xs a).length).toNat
  | 0 => by simp [smTo]
  | k + 1 => by rw [smTo, List.length_set]; exact smTo_length xs zs a k
def told (xs zs : List Int) : TM := if tensorOk xs zs = true then (xs, zs, true) else noT
theorem told_t {xs zs : List Int} (h : tensorOk xs zs = true) : told xs zs = (xs, zs, true) := if_pos h
theorem told_f {xs zs : List Int} (h : tensorOk xs zs = false) : told xs zs = noT := if_neg (by rw [h]; exact Bool.false_ne_true)
theorem told_len (xs zs : List Int) : (told xs zs).1.length ≤ 3 ∧ (told xs zs).2.1.length ≤ 64 := by
  rcases tensor_or xs zs with ⟨ht, hx, hz⟩ | ht
  · rw [told_t ht]; exact ⟨hx, hz.2⟩
  · rw [told_f ht]; exact ⟨Nat.zero_le _, Nat.zero_le _⟩
def sumM (xs zs : List Int) (i : Int) : TM := if tensorOk xs zs = true ∧ 0 ≤ i ∧ i < xs.length then told (wo xs i.toNat) (smTo xs zs i.toNat zs.length) else noT
theorem sumM_t {xs zs : List Int} {a : Nat} (h : tensorOk xs zs = true) (ha : a < xs.length) : sumM xs zs a = told (wo xs a) (smTo xs zs a zs.length) := by
  unfold sumM; rw [if_pos ⟨h, by omega, by omega⟩, Int.toNat_natCast]
theorem sumM_f1 {xs zs : List Int} {i : Int} (h : tensorOk xs zs = false) : sumM xs zs i = noT := if_neg (by rw [h]; exact fun h => Bool.false_ne_true h.1)
theorem sumM_f2 {xs zs : List Int} {i : Int} (h : ¬ (0 ≤ i ∧ i < xs.length)) : sumM xs zs i = noT := if_neg (fun h' => h h'.2)
theorem sumM_len (xs zs : List Int) (i : Int) : (sumM xs zs i).1.length ≤ 3 ∧ (sumM xs zs i).2.1.length ≤ 64 := by
  unfold sumM; split
  · exact told_len _ _
  · exact ⟨Nat.zero_le _, Nat.zero_le _⟩
end Go.Proofs.Ytmgggbgejdkamaa

/- Chapter 4: the tensors of an index sum. -/
namespace Go.Proofs.Ytmgggbgejdkamaa
set_option maxRecDepth 20000
open Go.RowKit Go.Am
set_option linter.unusedSimpArgs false
attribute [local irreducible] aPlan aGet aIf aLoop aCall RetB NextB CallB CallG aCut aSet aAppend
/-! What counters show. -/
theorem quo_in {zs : List Int} {i : Int} (hz : ∀ j, j < zs.length → 1 ≤ zs.getD j 0 ∧ zs.getD j 0 ≤ 4) (hi : 0 ≤ i ∧ i ≤ 1000) : ∀ m, m ≤ zs.length → 0 ≤ quoT zs i m ∧ quoT zs i m ≤ 1000
  | 0, _ => hi
  | m + 1, hm => by
    obtain ⟨h0, h1⟩ := quo_in hz hi m (by omega)
    have hzz := hz (zs.length - 1 - m) (by omega)
    have e : quoT zs i (m + 1) = IntKind.i64.wrap ((quoT zs i m).tdiv (zs.getD (zs.length - 1 - m) 0)) := rfl
    rw [e, Int.tdiv_eq_ediv_of_nonneg h0]
    have a1 : quoT zs i m / zs.getD (zs.length - 1 - m) 0 ≤ quoT zs i m := Int.ediv_le_self _ h0
    have a2 : 0 ≤ quoT zs i m / zs.getD (zs.length - 1 - m) 0 := Int.ediv_nonneg h0 (by omega)
    rw [IntWalk.i64_in _ (by omega)]
    omega
theorem plc_in {zs : List Int} {i : Int} (hz : ∀ j, j < zs.length → 1 ≤ zs.getD j 0 ∧ zs.getD j 0 ≤ 4) (hi : 0 ≤ i ∧ i ≤ 1000) {j : Nat} (hj : j < zs.length) : 0 ≤ (places zs i).getD j 0 ∧ (places zs i).getD j 0 < zs.getD j 0 := by
  have h0 := (quo_in hz hi (zs.length - 1 - j) (by omega)).1
  have hzz := hz j hj
  rw [places_getD hj, Int.tmod_eq_emod_of_nonneg h0]
  exact ⟨Int.emod_nonneg _ (by omega), Int.emod_lt_of_pos _ (by omega)⟩
theorem cnt3 {zs : List Int} (h5 : zs.length ≤ 5) (hz : ∀ j, j < zs.length → 1 ≤ zs.getD j 0 ∧ zs.getD j 0 ≤ 3) : 1 ≤ cntTo zs zs.length ∧ cntTo zs zs.length ≤ 243 := by
  have key : ∀ k, k ≤ zs.length → 1 ≤ cntTo zs k ∧ cntTo zs k ≤ 3 ^ k := by
    intro k
    induction k with
    | zero => intro _; exact ⟨Int.le_refl _, Int.le_refl _⟩
    | succ k ih =>
      intro hk
      obtain ⟨h1, h2⟩ := ih (by omega)
      obtain ⟨h3, h4⟩ := hz k (by omega)
      have hp : (3 : Int) ^ k ≤ 81 := by
        have : k ≤ 4 := by omega
        rcases k with _ | _ | _ | _ | _ | k
        · decide
        · decide
        · decide
        · decide
        · decide
        · omega
      have a1 : 1 * 1 ≤ cntTo zs k * zs.getD k 0 := Int.mul_le_mul h1 h3 (by decide) (by omega)
      have a2 : cntTo zs k * zs.getD k 0 ≤ 3 ^ k * 3 := Int.mul_le_mul h2 h4 (by omega) (by omega)
      have a3 : cntTo zs (k + 1) = cntTo zs k * zs.getD k 0 := by
        show IntKind.i64.wrap _ = _
        exact IntWalk.i64_in _ (by omega)
      rw [a3, Int.pow_succ]
      exact ⟨by omega, a2⟩
  have h := key zs.length (Nat.le_refl _)
  have hp : (3 : Int) ^ zs.length ≤ 243 := by
    generalize zs.length = n at h5
    rcases n with _ | _ | _ | _ | _ | _ | n
    · decide
    · decide
    · decide
    · decide
    · decide
    · decide
    · omega
  omega
/-- What letters pick out of sizes is a shape, and what they pick out of counters a place of it. -/
structure PkFacts (zs ls : List Int) (i : Int) : Prop where
  sh : shapeOk (turned zs ls) = true
  pk : placeOk (turned zs ls) (turned (places zs i) ls) = true
  ix : indexAt (turned zs ls) (turned (places zs i) ls) = idxTo (turned zs ls) (turned (places zs i) ls) (turned zs ls).length
  rg : 0 ≤ idxTo (turned zs ls) (turned (places zs i) ls) (turned zs ls).length ∧ idxTo (turned zs ls) (turned (places zs i) ls) (turned zs ls).length < cntTo (turned zs ls) (turned zs ls).length
theorem pk_shape {zs ls : List Int} (hz : ∀ j, j < zs.length → 1 ≤ zs.getD j 0 ∧ zs.getD j 0 ≤ 3) (hl : letP ls zs.length) : shapeOk (turned zs ls) = true := by
  have hin := difP_in hl.2
  refine (shapeOk_iff _).2 ⟨by rw [turned_length]; exact hl.1, fun j hj => ?_⟩
  rw [turned_length] at hj
  have := hin j hj
  have := hz (ls.getD j 0).toNat (by omega)
  rw [turned_getD hj, okSize_iff]; omega
theorem pk_facts {zs ls : List Int} {i : Int} (hz : ∀ j, j < zs.length → 1 ≤ zs.getD j 0 ∧ zs.getD j 0 ≤ 3) (hi : 0 ≤ i ∧ i ≤ 1000) (hl : letP ls zs.length) : PkFacts zs ls i := by
  have hin := difP_in hl.2
  have hs := pk_shape hz hl
  have hp : ∀ j, j < (turned zs ls).length → 0 ≤ (turned (places zs i) ls).getD j 0 ∧ (turned (places zs i) ls).getD j 0 < (turned zs ls).getD j 0 := fun j hj => by
    rw [turned_length] at hj
    have := hin j hj
    rw [turned_getD hj, turned_getD hj]
    exact plc_in (fun j hj => by have := hz j hj; omega) hi (by omega)
  have hpk : placeOk (turned zs ls) (turned (places zs i) ls) = true := (placeOk_iff _ _).2 ⟨hs, by rw [turned_length, turned_length], hp⟩
  exact ⟨hs, hpk, if_pos hpk, idx_range hs hp _ (Nat.le_refl _)⟩

/-! The tensors. -/
def svK (zs : List Int) (fs : List (List Int)) (ts : List T2) (k : Nat) : Prop := tensorOk (ts.getD k ([], [])).1 (ts.getD k ([], [])).2 = true ∧ (ts.getD k ([], [])).1 = turned zs (fs.getD k []) ∧ btw (ts.getD k ([], [])).2 (-1000) 1000 = true
instance (zs : List Int) (fs : List (List Int)) (ts : List T2) (k : Nat) : Decidable (svK zs fs ts k) := by unfold svK; infer_instance
def svP (zs : List Int) (fs : List (List Int)) (o : List Int) (ts : List T2) : Prop := sumP zs fs o ∧ ts.length = fs.length ∧ ∀ k, k < ts.length → svK zs fs ts k
instance (zs : List Int) (fs : List (List Int)) (o : List Int) (ts : List T2) : Decidable (svP zs fs o ts) := by unfold svP; infer_instance
theorem svP_f {zs o : List Int} {fs : List (List Int)} {ts : List T2} (h : ¬ svP zs fs o ts) : AV.bool false = AV.bool (decide (svP zs fs o ts)) := congrArg AV.bool (decide_eq_false h).symm
theorem svP_t {zs o : List Int} {fs : List (List Int)} {ts : List T2} (h : svP zs fs o ts) : AV.bool true = AV.bool (decide (svP zs fs o ts)) := congrArg AV.bool (decide_eq_true h).symm
def sFactorsOk : CSpec := fnS (ι := IS × Nat × List T2) (fun | ((c, zs, d, fs, e, o), g, ts) => [.agg [.sl c zs.length (zs.map (.int .i64)), .sl d fs.length (fs.map (slI d)), .sl e o.length (o.map (.int .i64))], .sl g ts.length (ts.flatMap (tnC g))]) (fun _ => True) (fun | ((_, zs, _, fs, _, o), _, ts) => .bool (decide (svP zs fs o ts)))
set_option maxHeartbeats 4000000 in
theorem factorsOk_sound : Sound Try.prog 80 sFactorsOk := by
  refine sound_of Try.func80 rfl (enters_of Try.func80 (by kernel_rfl) (by kernel_rfl)) ?_
  rintro ⟨⟨c, zs, d, fs, e, o⟩, g, ts⟩ -
  have hmax : maxLen = 9223372036854775807 := rfl
  by_cases h : sumP zs fs o
  · have h4 := h.2.2.1
    by_cases hl : ts.length = fs.length
    · conv => whnf
      repeat' (first
        | (refine aIf_t ?_; conv => whnf)
        | (refine aIf_f ?_; conv => whnf)
        | (refine fun (_ : _ ≤ maxLen) => ?_; conv => whnf)
        | (refine aGet_in rfl ?_; conv => whnf)
        | (refine load_same ?_; conv => whnf)
        | (refine And.intro rfl (And.intro (List.cons_ne_nil _ _) ?_); conv => whnf)
        | (refine And.intro (Nat.le_of_ble_eq_true rfl) ?_; conv => whnf)
        | (refine callG_t ?_; conv => whnf)
        | (refine append_same ?_; conv => whnf)
        | (refine And.intro (pureL_ii _ _) ?_; conv => whnf)
        | (refine iSumOk_call trivial ?_; conv => whnf)
        | (refine takeN_in ?_; conv => whnf)
        | (refine And.intro (pureL_ints _ _) ?_; conv => whnf)
        | (refine And.intro (by kernel_rfl) ?_; conv => whnf)
        | refine aIf_eqf ?_
        | refine aIf_not ?_
        | (refine aIf_dec (fun _ => ?_) (fun _ => ?_) <;> conv => whnf))
      all_goals (first | (exfalso; omega) | contradiction | skip)
      refine loop_u (ι := Nat) [false, false, true, false, false, false, false, false, false, false, false, false, false, false, false, false, false, false, false, false, true, true, true, false, false, false, false, false, false, false, false, false, false, false, false, false, false, false, false, false, false, false, false, false, false, false, false, false, false, false] (fun k => [(22, .int .i64 k)]) (fun _ => []) (fun k => k ≤ ts.length ∧ ∀ j, j < k → svK zs fs ts j) (fun k => ts.length - k) (0) ⟨Nat.zero_le _, fun j hj => absurd hj (Nat.not_lt_zero _)⟩ ?_ ?_
      · conv => whnf
        repeat' (first
          | exact trivial
          | exact rfl
          | exact pureL_ints _ _
          | exact pureL_ii _ _
          | exact pureL_tn _ _
          | refine Or.inr ?_
          | refine And.intro ?_ ?_
          | exact Nat.le_of_ble_eq_true rfl)
      · rintro k ⟨hk, hall⟩
        have hk : k ≤ ts.length := hk
        have hall : ∀ j, j < k → svK zs fs ts j := hall
        by_cases hlt : k < ts.length
        · obtain ⟨e1, e2⟩ := fs_t h (show 0 ≤ (k : Int) ∧ (k : Int) < fs.length by omega)
          rw [Int.toNat_natCast] at e1
          by_cases hT : tensorOk (ts.getD k ([], [])).1 (ts.getD k ([], [])).2 = true
          · by_cases hS : (ts.getD k ([], [])).1 = fsL zs fs o k
            · by_cases hB : btw (ts.getD k ([], [])).2 (-1000) 1000 = true
              · conv => whnf
                repeat' (first
                  | (refine aIf_t ?_; conv => whnf)
                  | (refine aIf_f ?_; conv => whnf)
                  | (refine aGet_in rfl ?_; conv => whnf)
                  | (refine And.intro (by omega) ?_; conv => whnf)
                  | (refine load_same ?_; conv => whnf)
                  | (refine And.intro (Nat.le_of_ble_eq_true rfl) ?_; conv => whnf)
                  | (refine callG_t ?_; conv => whnf)
                  | (refine iTensorOk_call ?_; conv => whnf)
                  | (refine allBetween_call trivial ?_; conv => whnf)
                  | (refine append_same ?_; conv => whnf)
                  | (refine part_tn_n (by omega) ?_; conv => whnf)
                  | (refine And.intro (pureL_ii _ _) ?_; conv => whnf)
                  | (refine iFactorShape_call trivial ?_; conv => whnf)
                  | (refine takeN_in ?_; conv => whnf)
                  | (refine And.intro (pureL_ints _ _) ?_; conv => whnf)
                  | (refine cut_ints ?_; conv => whnf)
                  | (refine sameNums_call ?_; conv => whnf)
                  | (refine set_force ?_; conv => whnf)
                  | (refine And.intro (by kernel_rfl) ?_; conv => whnf)
                  | (refine aIf_tt (by assumption) ?_; conv => whnf)
                  | refine aIf_eqf ?_
                  | refine aIf_not ?_
                  | (refine aIf_dec (fun _ => ?_) (fun _ => ?_) <;> conv => whnf))
                all_goals (first | (exfalso; omega) | contradiction | skip)
                refine next_u (k + 1) (show ts.length - (k + 1) < ts.length - k by omega) ⟨(by omega : k + 1 ≤ ts.length), fun j hj => ?_⟩ ?_
                · rcases Nat.lt_succ_iff_lt_or_eq.1 hj with h | rfl
                  · exact hall j h
                  · exact ⟨hT, by rw [hS, e1], hB⟩
                · conv => whnf
                  repeat' (first
                    | exact trivial
                    | exact rfl
                    | exact pureL_ints _ _
                    | exact pureL_ii _ _
                    | exact pureL_tn _ _
                    | refine Or.inr ?_
                    | refine And.intro ?_ ?_
                    | exact Nat.le_of_ble_eq_true rfl
                    | exact int_eq (by rw [IntWalk.i64_in _ (by omega)] <;> omega))
              · have hB' : btw (ts.getD k ([], [])).2 (-1000) 1000 = false := by simpa using hB
                conv => whnf
                repeat' (first
                  | (refine aIf_t ?_; conv => whnf)
                  | (refine aIf_f ?_; conv => whnf)
                  | (refine aGet_in rfl ?_; conv => whnf)
                  | (refine And.intro (by omega) ?_; conv => whnf)
                  | (refine load_same ?_; conv => whnf)
                  | (refine And.intro (Nat.le_of_ble_eq_true rfl) ?_; conv => whnf)
                  | (refine callG_t ?_; conv => whnf)
                  | (refine iTensorOk_call ?_; conv => whnf)
                  | (refine allBetween_call trivial ?_; conv => whnf)
                  | (refine append_same ?_; conv => whnf)
                  | (refine part_tn_n (by omega) ?_; conv => whnf)
                  | (refine And.intro (pureL_ii _ _) ?_; conv => whnf)
                  | (refine iFactorShape_call trivial ?_; conv => whnf)
                  | (refine takeN_in ?_; conv => whnf)
                  | (refine And.intro (pureL_ints _ _) ?_; conv => whnf)
                  | (refine cut_ints ?_; conv => whnf)
                  | (refine sameNums_call ?_; conv => whnf)
                  | (refine set_force ?_; conv => whnf)
                  | (refine And.intro (by kernel_rfl) ?_; conv => whnf)
                  | (refine aIf_tt (by assumption) ?_; conv => whnf)
                  | (refine aIf_ff (by assumption) ?_; conv => whnf)
                  | refine aIf_eqf ?_
                  | refine aIf_not ?_
                  | (refine aIf_dec (fun _ => ?_) (fun _ => ?_) <;> conv => whnf))
                all_goals (first | (exfalso; omega) | contradiction | skip)
                exact retS rfl (svP_f fun h' => hB (h'.2.2 k hlt).2.2)
            · conv => whnf
              repeat' (first
                | (refine aIf_t ?_; conv => whnf)
                | (refine aIf_f ?_; conv => whnf)
                | (refine aGet_in rfl ?_; conv => whnf)
                | (refine And.intro (by omega) ?_; conv => whnf)
                | (refine load_same ?_; conv => whnf)
                | (refine And.intro (Nat.le_of_ble_eq_true rfl) ?_; conv => whnf)
                | (refine callG_t ?_; conv => whnf)
                | (refine iTensorOk_call ?_; conv => whnf)
                | (refine allBetween_call trivial ?_; conv => whnf)
                | (refine append_same ?_; conv => whnf)
                | (refine part_tn_n (by omega) ?_; conv => whnf)
                | (refine And.intro (pureL_ii _ _) ?_; conv => whnf)
                | (refine iFactorShape_call trivial ?_; conv => whnf)
                | (refine takeN_in ?_; conv => whnf)
                | (refine And.intro (pureL_ints _ _) ?_; conv => whnf)
                | (refine cut_ints ?_; conv => whnf)
                | (refine sameNums_call ?_; conv => whnf)
                | (refine set_force ?_; conv => whnf)
                | (refine And.intro (by kernel_rfl) ?_; conv => whnf)
                | (refine aIf_tt (by assumption) ?_; conv => whnf)
                | refine aIf_eqf ?_
                | refine aIf_not ?_
                | (refine aIf_dec (fun _ => ?_) (fun _ => ?_) <;> conv => whnf)
                | (refine aIf_in (fun _ => ?_) (fun _ => ?_) <;> conv => whnf))
              all_goals (first | (exfalso; omega) | contradiction | skip)
              exact retS rfl (svP_f fun h' => hS (by rw [e1]; exact (h'.2.2 k hlt).2.1))
          · have hT' : tensorOk (ts.getD k ([], [])).1 (ts.getD k ([], [])).2 = false := by simpa using hT
            conv => whnf
            repeat' (first
              | (refine aIf_t ?_; conv => whnf)
              | (refine aIf_f ?_; conv => whnf)
              | (refine aGet_in rfl ?_; conv => whnf)
              | (refine And.intro (by omega) ?_; conv => whnf)
              | (refine load_same ?_; conv => whnf)
              | (refine And.intro (Nat.le_of_ble_eq_true rfl) ?_; conv => whnf)
              | (refine callG_t ?_; conv => whnf)
              | (refine iTensorOk_call ?_; conv => whnf)
              | (refine append_same ?_; conv => whnf)
              | (refine part_tn_n (by omega) ?_; conv => whnf)
              | (refine And.intro (pureL_ii _ _) ?_; conv => whnf)
              | (refine iFactorShape_call trivial ?_; conv => whnf)
              | (refine takeN_in ?_; conv => whnf)
              | (refine And.intro (pureL_ints _ _) ?_; conv => whnf)
              | (refine set_force ?_; conv => whnf)
              | (refine And.intro (by kernel_rfl) ?_; conv => whnf)
              | (refine aIf_ff (by assumption) ?_; conv => whnf)
              | refine aIf_eqf ?_
              | refine aIf_not ?_
              | (refine aIf_dec (fun _ => ?_) (fun _ => ?_) <;> conv => whnf))
            all_goals (first | (exfalso; omega) | contradiction | skip)
            exact retS rfl (svP_f fun h' => hT (h'.2.2 k hlt).1)
        · conv => whnf
          repeat' (first
            | (refine aIf_t ?_; conv => whnf)
            | (refine aIf_f ?_; conv => whnf)
            | (refine aGet_in rfl ?_; conv => whnf)
            | (refine And.intro (by omega) ?_; conv => whnf)
            | (refine load_same ?_; conv => whnf)
            | (refine callG_t ?_; conv => whnf)
            | (refine iTensorOk_call ?_; conv => whnf)
            | (refine allBetween_call trivial ?_; conv => whnf)
            | (refine append_same ?_; conv => whnf)
            | (refine part_tn_n (by omega) ?_; conv => whnf)
            | (refine iFactorShape_call trivial ?_; conv => whnf)
            | (refine takeN_in ?_; conv => whnf)
            | (refine cut_ints ?_; conv => whnf)
            | (refine sameNums_call ?_; conv => whnf)
            | (refine set_force ?_; conv => whnf)
            | refine aIf_eqf ?_
            | refine aIf_not ?_
            | (refine aIf_dec (fun _ => ?_) (fun _ => ?_) <;> conv => whnf)
            | (refine aIf_in (fun _ => ?_) (fun _ => ?_) <;> conv => whnf))
          all_goals (first | (exfalso; omega) | contradiction | skip)
          exact retS rfl (svP_t ⟨h, hl, fun j hj => hall j (by omega)⟩)
    · conv => whnf
      repeat' (first
        | (refine aIf_t ?_; conv => whnf)
        | (refine aIf_f ?_; conv => whnf)
        | (refine fun (_ : _ ≤ maxLen) => ?_; conv => whnf)
        | (refine aGet_in rfl ?_; conv => whnf)
        | (refine load_same ?_; conv => whnf)
        | (refine And.intro rfl (And.intro (List.cons_ne_nil _ _) ?_); conv => whnf)
        | (refine And.intro (Nat.le_of_ble_eq_true rfl) ?_; conv => whnf)
        | (refine callG_t ?_; conv => whnf)
        | (refine append_same ?_; conv => whnf)
        | (refine And.intro (pureL_ii _ _) ?_; conv => whnf)
        | (refine iSumOk_call trivial ?_; conv => whnf)
        | (refine takeN_in ?_; conv => whnf)
        | (refine And.intro (pureL_ints _ _) ?_; conv => whnf)
        | (refine And.intro (by kernel_rfl) ?_; conv => whnf)
        | refine aIf_eqf ?_
        | refine aIf_not ?_
        | (refine aIf_dec (fun _ => ?_) (fun _ => ?_) <;> conv => whnf))
      all_goals (first | (exfalso; omega) | contradiction | exact retS rfl (svP_f fun h' => hl h'.2.1))
  · conv => whnf
    repeat' (first
      | (refine aIf_t ?_; conv => whnf)
      | (refine aIf_f ?_; conv => whnf)
      | (refine fun (_ : _ ≤ maxLen) => ?_; conv => whnf)
      | (refine aGet_in rfl ?_; conv => whnf)
      | (refine load_same ?_; conv => whnf)
      | (refine And.intro rfl (And.intro (List.cons_ne_nil _ _) ?_); conv => whnf)
      | (refine And.intro (Nat.le_of_ble_eq_true rfl) ?_; conv => whnf)
      | (refine callG_t ?_; conv => whnf)
      | (refine append_same ?_; conv => whnf)
      | (refine And.intro (pureL_ii _ _) ?_; conv => whnf)
      | (refine iSumOk_call trivial ?_; conv => whnf)
      | (refine takeN_in ?_; conv => whnf)
      | (refine And.intro (pureL_ints _ _) ?_; conv => whnf)
      | (refine And.intro (by kernel_rfl) ?_; conv => whnf)
      | refine aIf_eqf ?_
      | refine aIf_not ?_
      | (refine aIf_dec (fun _ => ?_) (fun _ => ?_) <;> conv => whnf))
    all_goals (first | contradiction | exact retS rfl (svP_f fun h' => h h'.1))
theorem factorsOk_call {c d e g : Nat} {zs o : List Int} {fs : List (List Int)} {ts : List T2} {env : List AV} {rows : List Row} {ctr low : Nat} {k : AV → St → Prop} (hpre : True) (h : k (.bool (decide (svP zs fs o ts))) ⟨env, rows, ctr + 1, low⟩) :
    CallB Try.prog 80 ⟨env, rows, ctr, low⟩ [.agg [.sl c zs.length (zs.map (.int .i64)), .sl d fs.length (fs.map (slI d)), .sl e o.length (o.map (.int .i64))], .sl g ts.length (ts.flatMap (tnC g))] k := callS_in factorsOk_sound ((c, zs, d, fs, e, o), g, ts) hpre rfl h
end Go.Proofs.Ytmgggbgejdkamaa

/- Chapter 5: mathematics: orders. -/
namespace Go.Proofs.Ytmgggbgejdkamaa
set_option maxRecDepth 20000
open Go.RowKit Go.Am
set_option linter.unusedSimpArgs false
/-- A pair that may be put together. -/
def okPr (S : Sm) (p : List Int) : Prop := p.length = 2 ∧ rng S (p.getD 0 0) (p.getD 1 0) ∧ (lfS S (p.getD 0 0) (p.getD 1 0)).length ≤ 3
instance (S : Sm) (p : List Int) : Decidable (okPr S p) := by unfold okPr; infer_instance
def stp (S : Sm) (p : List Int) : Sm := mrg S (p.getD 0 0) (p.getD 1 0)
def cst (S : Sm) (a b : Int) : Int := cntTo (own (pr S a b)).1 (own (pr S a b)).1.length
def orS (S : Sm) (ps : List (List Int)) : Nat → Sm
  | 0 => S
  | k + 1 => stp (orS S ps k) (ps.getD k [])
def orC (S : Sm) (ps : List (List Int)) : Nat → Int
  | 0 => 0
  | k + 1 => IntKind.i64.wrap (orC S ps k + cst (orS S ps k) ((ps.getD k []).getD 0 0) ((ps.getD k []).getD 1 0))
def orP (S : Sm) (ps : List (List Int)) (n : Nat) : Prop := ∀ k, k < n → okPr (orS S ps k) (ps.getD k [])
instance (S : Sm) (ps : List (List Int)) (n : Nat) : Decidable (orP S ps n) := by unfold orP; infer_instance
theorem orP_0 (S : Sm) (ps : List (List Int)) : orP S ps 0 := fun _ hk => absurd hk (Nat.not_lt_zero _)
theorem orP_s {S : Sm} {ps : List (List Int)} {n : Nat} (h : orP S ps n) (hp : okPr (orS S ps n) (ps.getD n [])) : orP S ps (n + 1) := fun k hk => by
  rcases Nat.lt_succ_iff_lt_or_eq.1 hk with h1 | rfl
  · exact h k h1
  · exact hp
theorem orP_le {S : Sm} {ps : List (List Int)} {m n : Nat} (hmn : m ≤ n) (h : orP S ps n) : orP S ps m := fun k hk => h k (by omega)
theorem orS_ok {S : Sm} {ps : List (List Int)} (hS : okS S) : ∀ n, orP S ps n → okS (orS S ps n)
  | 0, _ => hS
  | n + 1, h => by
    have ih := orS_ok hS n (orP_le (Nat.le_succ _) h)
    obtain ⟨-, h2, h3⟩ := h n (Nat.lt_succ_self _)
    exact mrg_ok ih h2 h3
theorem orS_fl {S : Sm} {ps : List (List Int)} : ∀ n, orP S ps n → (orS S ps n).2.1.length + n = S.2.1.length
  | 0, _ => rfl
  | n + 1, h => by
    have ih := orS_fl n (orP_le (Nat.le_succ _) h)
    obtain ⟨-, h2, -⟩ := h n (Nat.lt_succ_self _)
    have := mrg_fl h2
    show (mrg (orS S ps n) _ _).2.1.length + (n + 1) = _
    omega
theorem orP_short {S : Sm} {ps : List (List Int)} {n : Nat} (hS : okS S) (h : orP S ps n) : n + 1 ≤ S.2.1.length ∧ n ≤ 3 := by
  have h1 := orS_fl n h
  have h2 := (orS_ok hS n h).f1
  have h4 := hS.f4
  have e : (orS S ps n).2.1.length ≥ 1 := h2
  omega
/-- An order, and what it takes. -/
def odP (S : Sm) (ps : List (List Int)) : Prop := sumP S.1 S.2.1 S.2.2 ∧ orP S ps ps.length ∧ (orS S ps ps.length).2.1.length = 1
instance (S : Sm) (ps : List (List Int)) : Decidable (odP S ps) := by unfold odP; infer_instance
def odC (S : Sm) (ps : List (List Int)) : Int := if odP S ps then orC S ps ps.length else -1
theorem odC_t {S : Sm} {ps : List (List Int)} (h : odP S ps) : odC S ps = orC S ps ps.length := if_pos h
theorem odC_f {S : Sm} {ps : List (List Int)} (h : ¬ odP S ps) : odC S ps = -1 := if_neg h
theorem odP_len {S : Sm} {ps : List (List Int)} (h : odP S ps) : ps.length + 1 = S.2.1.length := by
  have := orS_fl _ h.2.1
  have := h.2.2
  omega
theorem odP_of {S : Sm} {ps : List (List Int)} (h1 : sumP S.1 S.2.1 S.2.2) (h2 : ps.length + 1 = S.2.1.length) (h3 : orP S ps ps.length) : odP S ps := ⟨h1, h3, by
  have := orS_fl _ h3
  omega⟩
theorem rng_own (S : Sm) (a b : Int) : rng (own S) a b ↔ rng S a b := by unfold rng; rw [own_fl]
theorem cst_own {S : Sm} (h : okS S) (a b : Int) : cst (own S) a b = cst S a b := by unfold cst; rw [own_pr h]
theorem cst_in {S : Sm} (h : okS S) {a b : Int} (hn : (lfS S a b).length ≤ 3) : 1 ≤ cst S a b ∧ cst S a b ≤ 243 := by
  have hs := own_sumP (pr_ok h hn)
  exact cnt3 hs.1 ((btw_iff _ _ _).1 hs.2.1)
theorem orC_in {S : Sm} {ps : List (List Int)} (hS : okS S) : ∀ n, orP S ps n → 0 ≤ orC S ps n ∧ orC S ps n ≤ 243 * n
  | 0, _ => ⟨Int.le_refl _, Int.le_refl _⟩
  | n + 1, h => by
    have hn := orP_le (Nat.le_succ _) h
    have ih := orC_in hS n hn
    have hs := (orP_short hS h).2
    obtain ⟨-, h2, h3⟩ := h n (Nat.lt_succ_self _)
    have hc := cst_in (orS_ok hS n hn) h3
    have e : orC S ps (n + 1) = orC S ps n + cst (orS S ps n) ((ps.getD n []).getD 0 0) ((ps.getD n []).getD 1 0) := IntWalk.i64_in _ (by omega)
    rw [e]
    constructor
    · omega
    · push_cast; omega
theorem odC_nn {S : Sm} {ps : List (List Int)} : 0 ≤ odC S ps ↔ odP S ps := by
  by_cases h : odP S ps
  · rw [odC_t h]
    exact ⟨fun _ => h, fun _ => (orC_in (okP_of h.1) _ h.2.1).1⟩
  · rw [odC_f h]
    exact ⟨fun h' => absurd h' (by decide), fun h' => absurd h' h⟩
end Go.Proofs.Ytmgggbgejdkamaa

/- Chapter 5: calls of MergeOf, and what it gives on the way. -/
namespace Go.Proofs.Ytmgggbgejdkamaa
set_option maxRecDepth 20000
open Go.RowKit Go.Am
theorem iMergeOf_callW {c d e : Nat} {zs o : List Int} {fs : List (List Int)} {a b : Int} {W B : Sm} {t : Bool} {env : List AV} {rows : List Row} {ctr low : Nat} {k : AV → St → Prop} (hW : mgW (zs, fs, o) a b = W) (hB : mgB (zs, fs, o) a b = B) (ht : decide (mgP (zs, fs, o) a b) = t) (h : k (.tup [.agg [.ref rows.length ctr 0 W.1.length, .ref (rows.length + 1) ctr 0 W.2.1.length, .ref (rows.length + 2) ctr 0 W.2.2.length], .agg [.ref (rows.length + 3) ctr 0 B.1.length, .ref (rows.length + 4) ctr 0 B.2.1.length, .ref (rows.length + 5) ctr 0 B.2.2.length], .bool t])
      ⟨env, rows ++ [⟨ctr, 3, 1, W.1.map (.int .i64)⟩, ⟨ctr, 22, 1, W.2.1.map (ownI 3)⟩, ⟨ctr, 3, 1, W.2.2.map (.int .i64)⟩, ⟨ctr, 3, 1, B.1.map (.int .i64)⟩, ⟨ctr, 22, 1, B.2.1.map (ownI 3)⟩, ⟨ctr, 3, 1, B.2.2.map (.int .i64)⟩], ctr + 1, low⟩) :
    CallB Try.prog 24 ⟨env, rows, ctr, low⟩ [.agg [.sl c zs.length (zs.map (.int .i64)), .sl d fs.length (fs.map (slI d)), .sl e o.length (o.map (.int .i64))], .int .i64 a, .int .i64 b] k := by
  subst hW; subst hB; subst ht
  exact callIS2B_in iMergeOf_sound ((c, zs, d, fs, e, o), a, b) trivial h
theorem mgP_pr0 {S : Sm} {p : List Int} (hs : sumP S.1 S.2.1 S.2.2) (h2 : p.length = 2) : mgP S (p.getD (Int.toNat 0) 0) (p.getD (Int.toNat 1) 0) ↔ okPr S p := ⟨fun h => ⟨h2, h.2.1, h.2.2⟩, fun h => ⟨hs, h.2.1, h.2.2⟩⟩
theorem mgP_pr {T : Sm} {p : List Int} (hT : okS T) (h2 : p.length = 2) : mgP (own T) (p.getD (Int.toNat 0) 0) (p.getD (Int.toNat 1) 0) ↔ okPr T p := (mgP_own hT _ _).trans ⟨fun h => ⟨h2, h.1, h.2⟩, fun h => ⟨h.2.1, h.2.2⟩⟩
theorem mgW_st0 {S : Sm} {ps : List (List Int)} {i : Nat} (e0 : orS S ps i = S) (hs : sumP S.1 S.2.1 S.2.2) (h : okPr (orS S ps i) (ps.getD i [])) : mgW S ((ps.getD i []).getD (Int.toNat 0) 0) ((ps.getD i []).getD (Int.toNat 1) 0) = own (orS S ps (i + 1)) := by
  rw [e0] at h
  show _ = own (stp (orS S ps i) _)
  rw [e0]
  exact mgW_t ((mgP_pr0 hs h.1).2 h)
theorem mgW_st {S : Sm} {ps : List (List Int)} {i : Nat} (hT : okS (orS S ps i)) (h : okPr (orS S ps i) (ps.getD i [])) : mgW (own (orS S ps i)) ((ps.getD i []).getD (Int.toNat 0) 0) ((ps.getD i []).getD (Int.toNat 1) 0) = own (orS S ps (i + 1)) :=
  (mgW_t ((mgP_pr hT h.1).2 h)).trans (own_mrg hT ⟨h.2.1.1, Int.le_trans h.2.1.1 (Int.le_of_lt h.2.1.2.1)⟩)
theorem scN_own {S : Sm} (h : okS S) : scN (own S).1 (own S).2.1 (own S).2.2 = cntTo (own S).1 (own S).1.length := if_pos (own_sumP h)
theorem scB_st0 {S : Sm} {ps : List (List Int)} {i : Nat} (e0 : orS S ps i = S) (hs : sumP S.1 S.2.1 S.2.2) (h : okPr (orS S ps i) (ps.getD i [])) : scN (mgB S ((ps.getD i []).getD (Int.toNat 0) 0) ((ps.getD i []).getD (Int.toNat 1) 0)).1 (mgB S ((ps.getD i []).getD (Int.toNat 0) 0) ((ps.getD i []).getD (Int.toNat 1) 0)).2.1 (mgB S ((ps.getD i []).getD (Int.toNat 0) 0) ((ps.getD i []).getD (Int.toNat 1) 0)).2.2 = cst (orS S ps i) ((ps.getD i []).getD 0 0) ((ps.getD i []).getD 1 0) := by
  rw [e0] at h ⊢
  rw [mgB_t ((mgP_pr0 hs h.1).2 h)]
  exact scN_own (pr_ok (okP_of hs) h.2.2)
theorem scB_st {S : Sm} {ps : List (List Int)} {i : Nat} (hT : okS (orS S ps i)) (h : okPr (orS S ps i) (ps.getD i [])) : scN (mgB (own (orS S ps i)) ((ps.getD i []).getD (Int.toNat 0) 0) ((ps.getD i []).getD (Int.toNat 1) 0)).1 (mgB (own (orS S ps i)) ((ps.getD i []).getD (Int.toNat 0) 0) ((ps.getD i []).getD (Int.toNat 1) 0)).2.1 (mgB (own (orS S ps i)) ((ps.getD i []).getD (Int.toNat 0) 0) ((ps.getD i []).getD (Int.toNat 1) 0)).2.2 = cst (orS S ps i) ((ps.getD i []).getD 0 0) ((ps.getD i []).getD 1 0) := by
  rw [mgB_t ((mgP_pr hT h.1).2 h), own_pr hT]
  exact scN_own (pr_ok hT h.2.2)
end Go.Proofs.Ytmgggbgejdkamaa
