import Derived.Test.YtjmdhfjemaoebaaM2x4
import Derived.Test.YtjmdhfjemaoebaaM12x4
import Derived.Test.YtjmdhfjemaoebaaM2x1
/- Chapter 7: DegreeOf of both sides. -/
namespace Go.Proofs.Ytjmdhfjemaoebaa
set_option maxRecDepth 20000
open Go.RowKit Go.Am
set_option linter.unusedSimpArgs false
/-- The greatest degree of the first parts of a node. -/
def dgQ (ds : List Int) (x : Nd) : Nat → Int
  | 0 => 0
  | j + 1 => if dgQ ds x j < ds.getD (([x.a, x.b] : List Int).getD j 0).toNat 0 then ds.getD (([x.a, x.b] : List Int).getD j 0).toNat 0 else dgQ ds x j
theorem dgQ_all {ds : List Int} {x : Nd} {m : Int} {j : Nat} (h : (j : Int) = pcN x.op) (hop : 0 ≤ x.op ∧ x.op ≤ 12) (h0 : ¬ x.op = 0) (hm : ¬ (x.op = 4 ∨ x.op = 12)) (hd : dgIn ds m) : dgQ ds x j = dgN ds x := by
  have ha := (hd x.a.toNat).1
  have hb := (hd x.b.toNat).1
  have q1 : dgQ ds x 1 = if 0 < ds.getD x.a.toNat 0 then ds.getD x.a.toNat 0 else 0 := rfl
  have q2 : dgQ ds x 2 = if dgQ ds x 1 < ds.getD x.b.toNat 0 then ds.getD x.b.toNat 0 else dgQ ds x 1 := rfl
  have e1 : dgQ ds x 1 = ds.getD x.a.toNat 0 := by rw [q1]; split <;> omega
  rcases pcN_cases x.op with ⟨h1, h2⟩ | ⟨h1, h2⟩ | ⟨h1, h2, h3⟩
  · have : j = 0 := by omega
    subst this
    rw [dgN_1 (by omega)]; rfl
  · have : j = 1 := by omega
    subst this
    rw [e1, dgN_a (by omega) hm (fun h => by have := h.1; unfold twoP3 at this; omega)]
  · have : j = 2 := by omega
    subst this
    rw [q2, e1]
    split
    · rename_i hl; rw [dgN_b h2 hm (by unfold twoP3; omega) hl]
    · rename_i hl; rw [dgN_a h2 hm (fun h => hl h.2)]
theorem dgIn_mem {ds : List Int} {m : Int} (h : dgIn ds m) (i : Int) : 0 ≤ ds.getD i.toNat 0 := (h _).1
theorem cut_roomI {f n : Nat} {vs : List Int} {B : List AV} {K : List AV → Prop} (hn : n = vs.length) (hK : K (vs.map (.int .i64))) : aCut (f + 1) (vs.map (.int .i64) ++ B) 0 (n * 1) K := by
  subst hn
  refine ⟨by simp, vs.map (.int .i64), ?_, hK⟩
  rw [List.drop_zero, Nat.mul_one, List.take_left' (by simp)]
  exact scalL_tr (scalL_ints _ _)
theorem get_roomI {vs : List Int} {B : List AV} {i : Int} {K : AV → Prop} (h : 0 ≤ i ∧ i < vs.length) (hK : K (.int .i64 (vs.getD i.toNat 0))) : aGet ((vs.map (AV.int .i64) ++ B).drop (0 + i.toNat * 1)) 0 K := by
  refine ⟨_, ?_, hK⟩
  rw [List.getElem?_drop, Nat.add_zero, Nat.zero_add, Nat.mul_one, List.getElem?_append_left (by simp; omega), List.getElem?_map, List.getElem?_eq_getElem (by omega)]
  simp [List.getD, List.getElem?_eq_getElem (show i.toNat < vs.length by omega)]
attribute [local irreducible] aPlan aGet aIf aLoop aCall RetB NextB CallB CallG aCut aSet aAppend
/-- A number more in a row of numbers that has room. -/
theorem append_ir {env : List AV} {rows : List Row} {ctr low τ ver n τ' ver' r : Nat} {zs : List Int} {u : Int} {k : AV → St → Prop} (hr : rows[τ]? = some ⟨ver, 3, 1, zs.map (.int .i64) ++ List.replicate r (.int .i64 0)⟩) (hr' : rows[τ']? = some ⟨ver', 3, 1, [.int .i64 u]⟩) (hn : n = zs.length) (hle : 1 ≤ r)
    (hk : k (.ref τ ver 0 (n + 1)) ⟨env, rows.set τ ⟨ver, 3, 1, (zs ++ [u]).map (.int .i64) ++ List.replicate (r - 1) (.int .i64 0)⟩, ctr, low⟩) : aAppend Try.prog ⟨env, rows, ctr, low⟩ 34 (.ref τ ver 0 n) (.ref τ' ver' 0 1) k := by
  have hb : (bsz Try.prog 3) = some 8 := by kernel_rfl
  have hz : zeroCellsA Try.prog 3 = some [.int .i64 0] := by kernel_rfl
  have hty : Try.prog.underlying 34 = some (.slice 3) := by kernel_rfl
  have hs : ∀ K : Nat → Prop, K 1 → aSz Try.prog 3 K := fun K h => by
    have : tsz Try.prog 3 = some 1 := by kernel_rfl
    unfold aSz; rw [this]; exact h
  subst hn
  unfold aAppend
  rw [hty]
  simp only
  rw [hz]
  simp only
  refine hs _ ?_
  unfold aElems aRow
  simp only [hr']
  rw [if_pos trivial, if_pos (.inr trivial)]
  refine ⟨⟨by simp, by simp [AV.isOwn]⟩, ⟨rfl, by rw [hb]; rfl, by rw [hb]; decide⟩, ?_⟩
  simp only [hr]
  rw [if_pos trivial, if_pos (by simp)]
  refine ⟨by simp, fun h => by omega, fun _ _ => ?_, fun _ h => ?_⟩
  · have e1 : (zs.map (AV.int .i64) ++ List.replicate r (AV.int .i64 0)).take (zs.length * 1) = zs.map (.int .i64) := by rw [Nat.mul_one]; exact List.take_left' (by simp)
    have e2 : (zs.map (AV.int .i64) ++ List.replicate r (AV.int .i64 0)).drop (zs.length * 1 + [AV.int .i64 u].length) = List.replicate (r - 1) (AV.int .i64 0) := by
      rw [Nat.mul_one, ← List.drop_drop, List.drop_left' (by simp), List.drop_replicate]; rfl
    simp only [Nat.zero_mul, List.drop_zero, Nat.one_mul, List.take_of_length_le (show [AV.int .i64 u].length ≤ 1 from Nat.le_refl _)]
    rw [e1, e2]
    simpa [St.setRow, Row.putC, List.append_assoc] using hk
  · exfalso; simp at h; omega
def dgPre (x : Nd) (ds : List Int) : Prop := (∃ m : Int, formP x ds.length m) ∧ ∃ m : Int, dgIn ds m
set_option maxHeartbeats 4000000 in
theorem nodeDegree_sound : Sound Try.prog 56 (fnS (ι := Nat × Nd × Nat × List Int) (fun | (b, x, c, ds) => [.agg [.int .i64 x.op, .int .i64 x.a, .int .i64 x.b, .sl b x.l.length (x.l.map (.int .i64))], .sl c ds.length (ds.map (.int .i64))]) (fun | (_, x, _, ds) => dgPre x ds) (fun | (_, x, _, ds) => .int .i64 (dgN ds x))) := by
  refine sound_of Try.func56 rfl (enters_of Try.func56 (by kernel_rfl) (by kernel_rfl)) ?_
  rintro ⟨b, x, c, ds⟩ hpre
  obtain ⟨⟨m, hf⟩, m', hd⟩ : dgPre x ds := hpre
  have hmax : maxLen = 9223372036854775807 := rfl
  obtain ⟨f1, f2, f3, f4, f5, f6, f7⟩ := hf
  have hpc := pcN_le2 x.op
  have hlen : ([x.a, x.b] : List Int).length = 2 := rfl
  by_cases o0 : x.op = 0
  · have hM := dgN_0 (ds := ds) o0
    conv => whnf
    repeat' (first
      | (refine plan_in (id := 6) [0, 1, 2, 3, 4, 5, 6, 7, 8, 9, 10, 11] (by kernel_rfl) (by kernel_rfl) ?_; conv => whnf)
      | (refine fun (_ : _ ≤ maxLen) => ?_; conv => whnf)
      | (refine get_nat (by omega) ?_; conv => whnf)
      | (refine aGet_in rfl ?_; conv => whnf)
      | (refine And.intro (by omega) ?_; conv => whnf)
      | (refine load_same ?_; conv => whnf)
      | (refine And.intro rfl (And.intro (List.cons_ne_nil _ _) ?_); conv => whnf)
      | (refine callG_t ?_; conv => whnf)
      | (refine append_same ?_; conv => whnf)
      | (refine partsOf_call ?_; conv => whnf)
      | (refine takeN_in ?_; conv => whnf)
      | (refine aIf_dec (fun _ => ?_) (fun _ => ?_) <;> conv => whnf))
    all_goals (first | (exfalso; omega) | skip)
    exact retS rfl (congrArg _ hM.symm)
  · by_cases om : x.op = 4 ∨ x.op = 12
    · have hM := dgN_m (ds := ds) om
      have ha := f6 (by omega)
      have hb := f7 (by omega)
      conv => whnf
      repeat' (first
        | (refine plan_in (id := 6) [0, 1, 2, 3, 4, 5, 6, 7, 8, 9, 10, 11] (by kernel_rfl) (by kernel_rfl) ?_; conv => whnf)
        | (refine fun (_ : _ ≤ maxLen) => ?_; conv => whnf)
        | (refine get_int (by omega) ?_; conv => whnf)
        | (refine aGet_in rfl ?_; conv => whnf)
        | (refine And.intro (by omega) ?_; conv => whnf)
        | (refine load_same ?_; conv => whnf)
        | (refine And.intro rfl (And.intro (List.cons_ne_nil _ _) ?_); conv => whnf)
        | (refine callG_t ?_; conv => whnf)
        | (refine append_same ?_; conv => whnf)
        | (refine partsOf_call ?_; conv => whnf)
        | (refine takeN_in ?_; conv => whnf)
        | (refine aIf_dec (fun _ => ?_) (fun _ => ?_) <;> conv => whnf))
      all_goals (first | (exfalso; omega) | skip)
      all_goals exact retS rfl (congrArg _ hM.symm)
    · conv => whnf
      repeat' (first
        | (refine plan_in (id := 6) [0, 1, 2, 3, 4, 5, 6, 7, 8, 9, 10, 11] (by kernel_rfl) (by kernel_rfl) ?_; conv => whnf)
        | (refine fun (_ : _ ≤ maxLen) => ?_; conv => whnf)
        | (refine get_nat (by omega) ?_; conv => whnf)
        | (refine aGet_in rfl ?_; conv => whnf)
        | (refine And.intro (by omega) ?_; conv => whnf)
        | (refine load_same ?_; conv => whnf)
        | (refine And.intro rfl (And.intro (List.cons_ne_nil _ _) ?_); conv => whnf)
        | (refine And.intro (Nat.le_of_ble_eq_true rfl) ?_; conv => whnf)
        | (refine callG_t ?_; conv => whnf)
        | (refine append_same ?_; conv => whnf)
        | (refine partsOf_call ?_; conv => whnf)
        | (refine takeN_in ?_; conv => whnf)
        | (refine And.intro (pureL_ints _ _) ?_; conv => whnf)
        | (refine And.intro (by kernel_rfl) ?_; conv => whnf)
        | (refine aIf_dec (fun _ => ?_) (fun _ => ?_) <;> conv => whnf))
      all_goals (first | (exfalso; omega) | skip)
      refine loop_u (ι := Nat) [false, true, false, false, false, true, false, false, false, false, false, false, false, false, false, false, false, false, false, false, false, false, false, false, false, false, false, true, true, true, false, false, false, false, false, false, false, false, false, false, false, false, false, false, false] (fun j => [(5, .int .i64 (dgQ ds x j)), (29, .int .i64 j)]) (fun _ => []) (fun j => (j : Int) ≤ pcN x.op) (fun j => 2 - j) (0) (by omega) ?_ ?_
      · conv => whnf
        repeat' (first
          | exact trivial
          | exact rfl
          | exact pureL_ints _ _
          | exact Or.inl (And.intro rfl rfl)
          | refine Or.inr ?_
          | refine And.intro ?_ ?_
          | exact Nat.le_of_ble_eq_true rfl)
      · rintro j hj
        have hj : (j : Int) ≤ pcN x.op := hj
        by_cases hjl : (j : Int) < pcN x.op
        · have hpj : 0 ≤ ([x.a, x.b] : List Int).getD j 0 ∧ ([x.a, x.b] : List Int).getD j 0 < ds.length := by
            rcases pcN_cases x.op with ⟨h1, h2⟩ | ⟨h1, h2⟩ | ⟨h1, h2, h3⟩
            · omega
            · have : j = 0 := by omega
              subst this
              exact f6 (by omega)
            · have : j = 0 ∨ j = 1 := by omega
              rcases this with rfl | rfl
              · exact f6 (by omega)
              · exact f7 (by omega)
          by_cases hc : dgQ ds x j < ds.getD (([x.a, x.b] : List Int).getD j 0).toNat 0
          · have hq : dgQ ds x (j + 1) = ds.getD (([x.a, x.b] : List Int).getD j 0).toNat 0 := if_pos hc
            conv => whnf
            repeat' (first
              | (refine plan_in (id := 6) [0, 1, 2, 3, 4, 5, 6, 7, 8, 9, 10, 11] (by kernel_rfl) (by kernel_rfl) ?_; conv => whnf)
              | (refine get_nat0 (by omega) ?_; conv => whnf)
              | (refine get_int (by omega) ?_; conv => whnf)
              | (refine And.intro (by omega) ?_; conv => whnf)
              | (refine append_same ?_; conv => whnf)
              | (refine aIf_dec (fun _ => ?_) (fun _ => ?_) <;> conv => whnf))
            all_goals (first | (exfalso; omega) | skip)
            refine next_u (j + 1) (show 2 - (j + 1) < 2 - j by omega) (by show ((j + 1 : Nat) : Int) ≤ _; omega) ?_
            conv => whnf
            repeat' (first
              | exact trivial
              | exact rfl
              | exact pureL_ints _ _
              | exact Or.inl (And.intro rfl rfl)
              | refine Or.inr ?_
              | refine And.intro ?_ ?_
              | exact Nat.le_of_ble_eq_true rfl
              | exact int_eq (by omega)
              | exact int_eq (by rw [IntWalk.i64_in _ (by omega)] <;> omega))
            all_goals (first | (rw [hq]; done) | (rw [hq]; rfl) | skip)
          · have hq : dgQ ds x (j + 1) = dgQ ds x j := if_neg hc
            conv => whnf
            repeat' (first
              | (refine plan_in (id := 6) [0, 1, 2, 3, 4, 5, 6, 7, 8, 9, 10, 11] (by kernel_rfl) (by kernel_rfl) ?_; conv => whnf)
              | (refine get_nat0 (by omega) ?_; conv => whnf)
              | (refine get_nat (by omega) ?_; conv => whnf)
              | (refine get_int (by omega) ?_; conv => whnf)
              | (refine And.intro (by omega) ?_; conv => whnf)
              | (refine append_same ?_; conv => whnf)
              | (refine aIf_dec (fun _ => ?_) (fun _ => ?_) <;> conv => whnf))
            all_goals (first | (exfalso; omega) | skip)
            refine next_u (j + 1) (show 2 - (j + 1) < 2 - j by omega) (by show ((j + 1 : Nat) : Int) ≤ _; omega) ?_
            conv => whnf
            repeat' (first
              | exact trivial
              | exact rfl
              | exact pureL_ints _ _
              | exact Or.inl (And.intro rfl rfl)
              | refine Or.inr ?_
              | refine And.intro ?_ ?_
              | exact Nat.le_of_ble_eq_true rfl
              | exact int_eq (by omega)
              | exact int_eq (by rw [IntWalk.i64_in _ (by omega)] <;> omega))
            all_goals (first | (rw [hq]; done) | (rw [hq]; rfl) | skip)
        · have hq := dgQ_all (ds := ds) (x := x) (j := j) (by omega) f1 o0 om hd
          conv => whnf
          repeat' (first
            | (refine plan_in (id := 6) [0, 1, 2, 3, 4, 5, 6, 7, 8, 9, 10, 11] (by kernel_rfl) (by kernel_rfl) ?_; conv => whnf)
            | (refine get_nat0 (by omega) ?_; conv => whnf)
            | (refine get_nat (by omega) ?_; conv => whnf)
            | (refine And.intro (by omega) ?_; conv => whnf)
            | (refine append_same ?_; conv => whnf)
            | (refine aIf_dec (fun _ => ?_) (fun _ => ?_) <;> conv => whnf))
          all_goals (first | (exfalso; omega) | skip)
          exact retS rfl (congrArg _ hq)
theorem nodeDegree_call {b c : Nat} {x : Nd} {ds : List Int} {env : List AV} {rows : List Row} {ctr low : Nat} {k : AV → St → Prop} (hpre : dgPre x ds) (h : k (.int .i64 (dgN ds x)) ⟨env, rows, ctr + 1, low⟩) :
    CallB Try.prog 56 ⟨env, rows, ctr, low⟩ [.agg [.int .i64 x.op, .int .i64 x.a, .int .i64 x.b, .sl b x.l.length (x.l.map (.int .i64))], .sl c ds.length (ds.map (.int .i64))] k := callS_in nodeDegree_sound (b, x, c, ds) hpre rfl h
def sDegree : CSpec := fnS (ι := Nat × List (List Int) × List Nd) (fun | (c, xss, ns) => [.agg [.sl c xss.length (xss.map (slI c)), .sl c ns.length (ns.flatMap (ndC c))]]) (fun | (_, _, ns) => eP ns) (fun | (_, xss, ns) => .int .i64 (dgM xss ns))
set_option maxHeartbeats 4000000 in
theorem iDegreeOf_sound : Sound Try.prog 14 sDegree := by
  refine sound_of Try.func14 rfl (enters_of Try.func14 (by kernel_rfl) (by kernel_rfl)) ?_
  rintro ⟨c, xss, ns⟩ hpre
  have hE : eP ns := hpre
  have hmax : maxLen = 9223372036854775807 := rfl
  by_cases hS : smP xss ns
  · obtain ⟨⟨h1, h12⟩, hform⟩ := shM_form hS.1
    conv => whnf
    repeat' (first
      | (refine And.intro (And.intro (show (0 : Int) ≤ _ by omega) (And.intro (by kernel_rfl) (And.intro rfl (by kernel_rfl)))) (And.intro (And.intro (by omega) (And.intro (bytes_le (b := 8) rfl (by omega)) (by omega))) ?_); conv => whnf)
      | (refine fun (_ : _ ≤ maxLen) => ?_; conv => whnf)
      | (refine aGet_in rfl ?_; conv => whnf)
      | (refine load_same ?_; conv => whnf)
      | (refine And.intro rfl (And.intro (List.cons_ne_nil _ _) ?_); conv => whnf)
      | (refine And.intro (Nat.le_of_ble_eq_true rfl) ?_; conv => whnf)
      | (refine callG_t ?_; conv => whnf)
      | (refine append_same ?_; conv => whnf)
      | (refine And.intro (pureL_ii _ _) ?_; conv => whnf)
      | (refine And.intro (pureL_nd _ _) ?_; conv => whnf)
      | (refine iSmoothOk_call (by first | omega | assumption | (refine ⟨?_, ?_⟩ <;> first | assumption | omega) | (refine ⟨?_, ?_, ?_⟩ <;> first | assumption | omega)) ?_; conv => whnf)
      | (refine takeN_in ?_; conv => whnf)
      | (refine And.intro (by kernel_rfl) ?_; conv => whnf)
      | refine aIf_not ?_
      | (refine aIf_dec (fun _ => ?_) (fun _ => ?_) <;> conv => whnf))
    all_goals (first | (exfalso; omega) | contradiction | skip)
    refine loop_u (ι := Nat) [false, false, false, true, false, false, false, false, false, false, false, false, false, false, true, true, true, false, false, false, false, false, false, false, false, false, false, false, false, false, false, false, false] (fun k => [(3, .ref 1 3 0 (dgTo ns k).length), (16, .int .i64 k)]) (fun k => [(1, (dgTo ns k).map (.int .i64) ++ List.replicate (ns.length - k) (.int .i64 0))]) (fun k => k ≤ ns.length) (fun k => ns.length - k) (0) (Nat.zero_le _) ?_ ?_
    · conv => whnf
      repeat' (first | exact le_cells (by simp [dgTo]; rfl) (pureL_app (pureL_ints _ _) (pureL_rep _ rfl _)) | refine And.intro ?_ ?_)
      repeat' (first
        | exact trivial
        | exact rfl
        | exact pureL_ii _ _
        | exact pureL_nd _ _
        | refine Or.inr ?_
        | refine And.intro ?_ ?_
        | exact Nat.le_of_ble_eq_true rfl)
    · intro k hk
      have hk : k ≤ ns.length := hk
      have hl := dgTo_length ns k
      by_cases hlt : k < ns.length
      · have hp : dgPre (ns.getD k default) (dgTo ns k) := ⟨⟨_, by rw [hl]; exact hform k hlt⟩, _, dg_in ns k (by omega)⟩
        conv => whnf
        repeat' (first
          | (refine fun (_ : _ ≤ maxLen) => ?_; conv => whnf)
          | (refine And.intro (by omega) ?_; conv => whnf)
          | (refine load_same ?_; conv => whnf)
          | (refine And.intro (Nat.le_of_ble_eq_true rfl) ?_; conv => whnf)
          | (refine callG_t ?_; conv => whnf)
          | (refine append_same ?_; conv => whnf)
          | (refine part_nd_n (by omega) ?_; conv => whnf)
          | (refine cut_roomI (by omega) ?_; conv => whnf)
          | (refine get_roomI (by omega) ?_; conv => whnf)
          | (refine nodeDegree_call (by assumption) ?_; conv => whnf)
          | (refine takeN_in ?_; conv => whnf)
          | (refine And.intro (pureL_ints _ _) ?_; conv => whnf)
          | (refine set_force ?_; conv => whnf)
          | (refine And.intro (And.intro (by kernel_rfl) (And.intro rfl (Nat.le_of_ble_eq_true rfl))) ?_; conv => whnf)
          | (refine And.intro (by kernel_rfl) ?_; conv => whnf)
          | (refine aIf_dec (fun _ => ?_) (fun _ => ?_) <;> conv => whnf))
        all_goals (first | (exfalso; omega) | contradiction | skip)
        refine append_ir (zs := dgTo ns k) rfl rfl rfl (by omega) ?_
        conv => whnf
        repeat' (first
          | (refine append_same ?_; conv => whnf))
        refine next_u (k + 1) (show ns.length - (k + 1) < ns.length - k by omega) (by show k + 1 ≤ ns.length; omega) ?_
        conv => whnf
        have hl1 : (dgTo ns (k + 1)).length = (dgTo ns k).length + 1 := by rw [dgTo_length, hl]
        have eR : ns.length - k - 1 = ns.length - (k + 1) := by omega
        have eRow : (dgTo ns k ++ [dgN (dgTo ns k) (ns.getD k default)]).map (AV.int .i64) ++ List.replicate (ns.length - k - 1) (AV.int .i64 0) = (dgTo ns (k + 1)).map (AV.int .i64) ++ List.replicate (ns.length - (k + 1)) (AV.int .i64 0) := by rw [eR]; rfl
        repeat' (first | exact le_cells eRow (pureL_app (pureL_ints _ _) (pureL_rep _ rfl _)) | exact hl1 | exact hl1.symm | refine And.intro ?_ ?_)
        repeat' (first
          | exact trivial
          | exact rfl
          | exact pureL_ii _ _
          | exact pureL_nd _ _
          | refine Or.inr ?_
          | refine And.intro ?_ ?_
          | exact Nat.le_of_ble_eq_true rfl
          | exact int_eq (by rw [IntWalk.i64_in _ (by omega)] <;> omega))
      · have he : k = ns.length := by omega
        subst he
        have e0 : ns.length - ns.length = 0 := by omega
        have hw : IntKind.i64.wrap (((dgTo ns ns.length).length : Int) - 1) = ((ns.length - 1 : Nat) : Int) := (IntWalk.i64_in _ (by omega)).trans (by omega)
        have hM : dgM xss ns = (dgTo ns ns.length).getD (ns.length - 1) 0 := dgM_t hS
        conv => whnf
        repeat' (first
          | (refine fun (_ : _ ≤ maxLen) => ?_; conv => whnf)
          | (refine And.intro (by omega) ?_; conv => whnf)
          | (refine load_same ?_; conv => whnf)
          | (refine callG_t ?_; conv => whnf)
          | (refine append_same ?_; conv => whnf)
          | (refine part_nd_n (by omega) ?_; conv => whnf)
          | (refine cut_roomI (by omega) ?_; conv => whnf)
          | (refine get_roomI (by omega) ?_; conv => whnf)
          | (refine takeN_in ?_; conv => whnf)
          | (refine set_force ?_; conv => whnf)
          | (refine aIf_dec (fun _ => ?_) (fun _ => ?_) <;> conv => whnf))
        all_goals (first | (exfalso; omega) | contradiction | skip)
        rw [hw, Int.toNat_natCast]
        exact retS rfl (congrArg _ hM.symm)
  · have hM := dgM_f hS
    conv => whnf
    repeat' (first
      | (refine fun (_ : _ ≤ maxLen) => ?_; conv => whnf)
      | (refine aGet_in rfl ?_; conv => whnf)
      | (refine load_same ?_; conv => whnf)
      | (refine And.intro rfl (And.intro (List.cons_ne_nil _ _) ?_); conv => whnf)
      | (refine And.intro (Nat.le_of_ble_eq_true rfl) ?_; conv => whnf)
      | (refine callG_t ?_; conv => whnf)
      | (refine append_same ?_; conv => whnf)
      | (refine And.intro (pureL_ii _ _) ?_; conv => whnf)
      | (refine And.intro (pureL_nd _ _) ?_; conv => whnf)
      | (refine iSmoothOk_call (by first | omega | assumption | (refine ⟨?_, ?_⟩ <;> first | assumption | omega) | (refine ⟨?_, ?_, ?_⟩ <;> first | assumption | omega)) ?_; conv => whnf)
      | (refine takeN_in ?_; conv => whnf)
      | (refine And.intro (by kernel_rfl) ?_; conv => whnf)
      | refine aIf_not ?_
      | (refine aIf_dec (fun _ => ?_) (fun _ => ?_) <;> conv => whnf))
    all_goals (first | contradiction | exact retS rfl (congrArg _ hM.symm))
set_option maxHeartbeats 4000000 in
theorem sDegreeOf_sound : Sound Try.prog 12 sDegree := by
  refine sound_of Try.func12 rfl (enters_of Try.func12 (by kernel_rfl) (by kernel_rfl)) ?_
  rintro ⟨c, xss, ns⟩ hpre
  have hE : eP ns := hpre
  have hmax : maxLen = 9223372036854775807 := rfl
  by_cases hS : smP xss ns
  · obtain ⟨⟨h1, h12⟩, hform⟩ := shM_form hS.1
    conv => whnf
    repeat' (first
      | (refine plan_in (id := 12) [0, 1, 2, 3, 4, 5, 6, 7, 8, 9, 10, 11] (by kernel_rfl) (by kernel_rfl) ?_; conv => whnf)
      | (refine load_same ?_; conv => whnf)
      | (refine And.intro rfl (And.intro (List.cons_ne_nil _ _) ?_); conv => whnf)
      | (refine And.intro (Nat.le_of_ble_eq_true rfl) ?_; conv => whnf)
      | (refine callG_t ?_; conv => whnf)
      | (refine append_same ?_; conv => whnf)
      | (refine And.intro (pureL_ii _ _) ?_; conv => whnf)
      | (refine And.intro (pureL_nd _ _) ?_; conv => whnf)
      | (refine sSmoothOk_call (by first | omega | assumption | (refine ⟨?_, ?_⟩ <;> first | assumption | omega) | (refine ⟨?_, ?_, ?_⟩ <;> first | assumption | omega)) ?_; conv => whnf)
      | (refine takeN_in ?_; conv => whnf)
      | (refine And.intro (And.intro (by kernel_rfl) (And.intro rfl (Nat.le_of_ble_eq_true rfl))) ?_; conv => whnf)
      | (refine And.intro (by kernel_rfl) ?_; conv => whnf)
      | refine aIf_not ?_
      | (refine aIf_dec (fun _ => ?_) (fun _ => ?_) <;> conv => whnf))
    all_goals (first | (exfalso; omega) | contradiction | skip)
    refine loop_u (ι := Nat) [false, true, false, true, true, false, false, false, false, false, false, false, false, false, false, false, false, false, false, false, false, false, false, false, false, false, false, false, false, false, false, false, false, false, false, false, false, false, false, false, false, false, false, false, false, false, false, false, false, false, false, false, false, false, false, false, false, false, false, false, false, false, false, false, false, false, false, false, false, false, false, false, false, false, false, false, false, false, false, false] (fun k => [(3, .ref 1 3 0 (dgTo ns k).length), (4, .int .i64 k)]) (fun k => [(1, (dgTo ns k).map (.int .i64))]) (fun k => k ≤ ns.length) (fun k => ns.length - k) (0) (Nat.zero_le _) ?_ ?_
    · conv => whnf
      repeat' (first
        | exact trivial
        | exact rfl
        | exact Or.inl (And.intro rfl rfl)
        | exact pureL_ii _ _
        | exact pureL_nd _ _
        | refine Or.inr ?_
        | refine And.intro ?_ ?_
        | exact Nat.le_of_ble_eq_true rfl)
    · intro k hk
      have hk : k ≤ ns.length := hk
      have hl := dgTo_length ns k
      have hl1 : (dgTo ns (k + 1)).length = (dgTo ns k).length + 1 := by rw [dgTo_length, hl]
      by_cases hlt : k < ns.length
      · obtain ⟨f1, f2, f3, f4, f5, f6, f7⟩ := hform k hlt
        by_cases o0 : (ns.getD k default).op = 0
        · have hn : dgTo ns (k + 1) = dgTo ns k ++ [1] := by show _ ++ [_] = _; rw [dgN_0 o0]
          conv => whnf
          repeat' (first
            | (refine plan_in (id := 12) [0, 1, 2, 3, 4, 5, 6, 7, 8, 9, 10, 11] (by kernel_rfl) (by kernel_rfl) ?_; conv => whnf)
            | (refine aIf_t ?_; conv => whnf)
            | (refine aIf_f ?_; conv => whnf)
            | (refine fun (_ : _ ≤ maxLen) => ?_; conv => whnf)
            | (refine get_nat0 (by omega) ?_; conv => whnf)
            | (refine aGet_in rfl ?_; conv => whnf)
            | (refine And.intro (by omega) ?_; conv => whnf)
            | (refine And.intro (Nat.le_of_ble_eq_true rfl) ?_; conv => whnf)
            | (refine callG_t ?_; conv => whnf)
            | (refine append_same ?_; conv => whnf)
            | (refine part_nd_n (by omega) ?_; conv => whnf)
            | (refine l3Two_call trivial ?_; conv => whnf)
            | (refine append_int rfl rfl (by first | rfl | (simp only [List.length_take, turned_length]; omega)) (by omega) (Nat.le_of_ble_eq_true rfl) ?_; conv => whnf)
            | (refine set_force ?_; conv => whnf)
            | (refine And.intro (And.intro (by kernel_rfl) (And.intro rfl (Nat.le_of_ble_eq_true rfl))) ?_; conv => whnf)
            | (refine And.intro (by kernel_rfl) ?_; conv => whnf)
            | refine aIf_eqt ?_
            | refine aIf_eqf ?_
            | refine aIf_not ?_
            | (refine aIf_dec (fun _ => ?_) (fun _ => ?_) <;> conv => whnf))
          all_goals (first | (exfalso; omega) | contradiction | skip)
          refine next_u (k + 1) (show ns.length - (k + 1) < ns.length - k by omega) (by exact (by omega : k + 1 ≤ ns.length)) ?_
          conv => whnf
          repeat' (first
            | exact trivial
            | exact rfl
            | exact pureL_ii _ _
            | exact pureL_nd _ _
            | refine le_ints ?_
            | refine Or.inr ?_
            | refine And.intro ?_ ?_
            | exact Nat.le_of_ble_eq_true rfl
            | exact List.length_append
            | exact int_eq (by rw [IntWalk.i64_in _ (by omega)] <;> omega))
          all_goals (first | (rw [hn]; done) | (rw [hn]; rfl) | exact hl1 | exact hl1.symm | skip)
        · by_cases om : (ns.getD k default).op = 4 ∨ (ns.getD k default).op = 12
          · have ha := f6 (by omega)
            have hb := f7 (by omega)
            have hn : dgTo ns (k + 1) = dgTo ns k ++ [IntKind.i64.wrap ((dgTo ns k).getD (ns.getD k default).a.toNat 0 + (dgTo ns k).getD (ns.getD k default).b.toNat 0)] := by show _ ++ [_] = _; rw [dgN_m om]
            conv => whnf
            repeat' (first
              | (refine plan_in (id := 12) [0, 1, 2, 3, 4, 5, 6, 7, 8, 9, 10, 11] (by kernel_rfl) (by kernel_rfl) ?_; conv => whnf)
              | (refine aIf_t ?_; conv => whnf)
              | (refine aIf_f ?_; conv => whnf)
              | (refine fun (_ : _ ≤ maxLen) => ?_; conv => whnf)
              | (refine get_nat0 (by omega) ?_; conv => whnf)
              | (refine get_int0 (by omega) ?_; conv => whnf)
              | (refine aGet_in rfl ?_; conv => whnf)
              | (refine And.intro (by omega) ?_; conv => whnf)
              | (refine And.intro (Nat.le_of_ble_eq_true rfl) ?_; conv => whnf)
              | (refine callG_t ?_; conv => whnf)
              | (refine append_same ?_; conv => whnf)
              | (refine part_nd_n (by omega) ?_; conv => whnf)
              | (refine l3Two_call trivial ?_; conv => whnf)
              | (refine append_int rfl rfl (by first | rfl | (simp only [List.length_take, turned_length]; omega)) (by omega) (Nat.le_of_ble_eq_true rfl) ?_; conv => whnf)
              | (refine set_force ?_; conv => whnf)
              | (refine And.intro (And.intro (by kernel_rfl) (And.intro rfl (Nat.le_of_ble_eq_true rfl))) ?_; conv => whnf)
              | (refine And.intro (by kernel_rfl) ?_; conv => whnf)
              | refine aIf_eqt ?_
              | refine aIf_eqf ?_
              | refine aIf_not ?_
              | (refine aIf_dec (fun _ => ?_) (fun _ => ?_) <;> conv => whnf))
            all_goals (first | (exfalso; omega) | contradiction | skip)
            all_goals
              refine next_u (k + 1) (show ns.length - (k + 1) < ns.length - k by omega) (by exact (by omega : k + 1 ≤ ns.length)) ?_
              conv => whnf
              repeat' (first
                | exact trivial
                | exact rfl
                | exact pureL_ii _ _
                | exact pureL_nd _ _
                | refine le_ints ?_
                | refine Or.inr ?_
                | refine And.intro ?_ ?_
                | exact Nat.le_of_ble_eq_true rfl
                | exact List.length_append
                | exact int_eq (by rw [IntWalk.i64_in _ (by omega)] <;> omega))
            all_goals (first | (rw [hn]; done) | (rw [hn]; rfl) | exact hl1 | exact hl1.symm | skip)
          · by_cases o1 : (ns.getD k default).op = 1
            · have hn : dgTo ns (k + 1) = dgTo ns k ++ [0] := by show _ ++ [_] = _; rw [dgN_1 o1]
              conv => whnf
              repeat' (first
                | (refine plan_in (id := 12) [0, 1, 2, 3, 4, 5, 6, 7, 8, 9, 10, 11] (by kernel_rfl) (by kernel_rfl) ?_; conv => whnf)
                | (refine aIf_t ?_; conv => whnf)
                | (refine aIf_f ?_; conv => whnf)
                | (refine fun (_ : _ ≤ maxLen) => ?_; conv => whnf)
                | (refine get_nat0 (by omega) ?_; conv => whnf)
                | (refine aGet_in rfl ?_; conv => whnf)
                | (refine And.intro (by omega) ?_; conv => whnf)
                | (refine And.intro (Nat.le_of_ble_eq_true rfl) ?_; conv => whnf)
                | (refine callG_t ?_; conv => whnf)
                | (refine append_same ?_; conv => whnf)
                | (refine part_nd_n (by omega) ?_; conv => whnf)
                | (refine l3Two_call trivial ?_; conv => whnf)
                | (refine append_int rfl rfl (by first | rfl | (simp only [List.length_take, turned_length]; omega)) (by omega) (Nat.le_of_ble_eq_true rfl) ?_; conv => whnf)
                | (refine set_force ?_; conv => whnf)
                | (refine And.intro (And.intro (by kernel_rfl) (And.intro rfl (Nat.le_of_ble_eq_true rfl))) ?_; conv => whnf)
                | (refine And.intro (by kernel_rfl) ?_; conv => whnf)
                | refine aIf_eqt ?_
                | refine aIf_eqf ?_
                | refine aIf_not ?_
                | (refine aIf_dec (fun _ => ?_) (fun _ => ?_) <;> conv => whnf))
              all_goals (first | (exfalso; omega) | contradiction | skip)
              refine next_u (k + 1) (show ns.length - (k + 1) < ns.length - k by omega) (by exact (by omega : k + 1 ≤ ns.length)) ?_
              conv => whnf
              repeat' (first
                | exact trivial
                | exact rfl
                | exact pureL_ii _ _
                | exact pureL_nd _ _
                | refine le_ints ?_
                | refine Or.inr ?_
                | refine And.intro ?_ ?_
                | exact Nat.le_of_ble_eq_true rfl
                | exact List.length_append
                | exact int_eq (by rw [IntWalk.i64_in _ (by omega)] <;> omega))
              all_goals (first | (rw [hn]; done) | (rw [hn]; rfl) | exact hl1 | exact hl1.symm | skip)
            · have ha := f6 (by omega)
              by_cases ht : twoP3 (ns.getD k default).op
              · have hb := f7 (by unfold twoP3 at ht; omega)
                by_cases hlt2 : (dgTo ns k).getD (ns.getD k default).a.toNat 0 < (dgTo ns k).getD (ns.getD k default).b.toNat 0
                · have hn : dgTo ns (k + 1) = dgTo ns k ++ [(dgTo ns k).getD (ns.getD k default).b.toNat 0] := by show _ ++ [_] = _; rw [dgN_b (by omega) om ht hlt2]
                  conv => whnf
                  repeat' (first
                    | (refine plan_in (id := 12) [0, 1, 2, 3, 4, 5, 6, 7, 8, 9, 10, 11] (by kernel_rfl) (by kernel_rfl) ?_; conv => whnf)
                    | (refine aIf_t ?_; conv => whnf)
                    | (refine aIf_f ?_; conv => whnf)
                    | (refine fun (_ : _ ≤ maxLen) => ?_; conv => whnf)
                    | (refine get_nat0 (by omega) ?_; conv => whnf)
                    | (refine get_int0 (by omega) ?_; conv => whnf)
                    | (refine aGet_in rfl ?_; conv => whnf)
                    | (refine And.intro (by omega) ?_; conv => whnf)
                    | (refine And.intro (Nat.le_of_ble_eq_true rfl) ?_; conv => whnf)
                    | (refine callG_t ?_; conv => whnf)
                    | (refine append_same ?_; conv => whnf)
                    | (refine part_nd_n (by omega) ?_; conv => whnf)
                    | (refine l3Two_call trivial ?_; conv => whnf)
                    | (refine append_int rfl rfl (by first | rfl | (simp only [List.length_take, turned_length]; omega)) (by omega) (Nat.le_of_ble_eq_true rfl) ?_; conv => whnf)
                    | (refine set_force ?_; conv => whnf)
                    | (refine And.intro (And.intro (by kernel_rfl) (And.intro rfl (Nat.le_of_ble_eq_true rfl))) ?_; conv => whnf)
                    | (refine And.intro (by kernel_rfl) ?_; conv => whnf)
                    | refine aIf_eqt ?_
                    | refine aIf_eqf ?_
                    | refine aIf_not ?_
                    | (refine aIf_dec (fun _ => ?_) (fun _ => ?_) <;> conv => whnf))
                  all_goals (first | (exfalso; omega) | contradiction | skip)
                  all_goals
                    refine next_u (k + 1) (show ns.length - (k + 1) < ns.length - k by omega) (by exact (by omega : k + 1 ≤ ns.length)) ?_
                    conv => whnf
                    repeat' (first
                      | exact trivial
                      | exact rfl
                      | exact pureL_ii _ _
                      | exact pureL_nd _ _
                      | refine le_ints ?_
                      | refine Or.inr ?_
                      | refine And.intro ?_ ?_
                      | exact Nat.le_of_ble_eq_true rfl
                      | exact List.length_append
                      | exact int_eq (by rw [IntWalk.i64_in _ (by omega)] <;> omega))
                  all_goals (first | (rw [hn]; done) | (rw [hn]; rfl) | exact hl1 | exact hl1.symm | skip)
                · have hn : dgTo ns (k + 1) = dgTo ns k ++ [(dgTo ns k).getD (ns.getD k default).a.toNat 0] := by show _ ++ [_] = _; rw [dgN_a (by omega) om (fun h => hlt2 h.2)]
                  conv => whnf
                  repeat' (first
                    | (refine plan_in (id := 12) [0, 1, 2, 3, 4, 5, 6, 7, 8, 9, 10, 11] (by kernel_rfl) (by kernel_rfl) ?_; conv => whnf)
                    | (refine aIf_t ?_; conv => whnf)
                    | (refine aIf_f ?_; conv => whnf)
                    | (refine fun (_ : _ ≤ maxLen) => ?_; conv => whnf)
                    | (refine get_nat0 (by omega) ?_; conv => whnf)
                    | (refine get_int0 (by omega) ?_; conv => whnf)
                    | (refine aGet_in rfl ?_; conv => whnf)
                    | (refine And.intro (by omega) ?_; conv => whnf)
                    | (refine And.intro (Nat.le_of_ble_eq_true rfl) ?_; conv => whnf)
                    | (refine callG_t ?_; conv => whnf)
                    | (refine append_same ?_; conv => whnf)
                    | (refine part_nd_n (by omega) ?_; conv => whnf)
                    | (refine l3Two_call trivial ?_; conv => whnf)
                    | (refine append_int rfl rfl (by first | rfl | (simp only [List.length_take, turned_length]; omega)) (by omega) (Nat.le_of_ble_eq_true rfl) ?_; conv => whnf)
                    | (refine set_force ?_; conv => whnf)
                    | (refine And.intro (And.intro (by kernel_rfl) (And.intro rfl (Nat.le_of_ble_eq_true rfl))) ?_; conv => whnf)
                    | (refine And.intro (by kernel_rfl) ?_; conv => whnf)
                    | refine aIf_eqt ?_
                    | refine aIf_eqf ?_
                    | refine aIf_not ?_
                    | (refine aIf_dec (fun _ => ?_) (fun _ => ?_) <;> conv => whnf))
                  all_goals (first | (exfalso; omega) | contradiction | skip)
                  all_goals
                    refine next_u (k + 1) (show ns.length - (k + 1) < ns.length - k by omega) (by exact (by omega : k + 1 ≤ ns.length)) ?_
                    conv => whnf
                    repeat' (first
                      | exact trivial
                      | exact rfl
                      | exact pureL_ii _ _
                      | exact pureL_nd _ _
                      | refine le_ints ?_
                      | refine Or.inr ?_
                      | refine And.intro ?_ ?_
                      | exact Nat.le_of_ble_eq_true rfl
                      | exact List.length_append
                      | exact int_eq (by rw [IntWalk.i64_in _ (by omega)] <;> omega))
                  all_goals (first | (rw [hn]; done) | (rw [hn]; rfl) | exact hl1 | exact hl1.symm | skip)
              · have hn : dgTo ns (k + 1) = dgTo ns k ++ [(dgTo ns k).getD (ns.getD k default).a.toNat 0] := by show _ ++ [_] = _; rw [dgN_a (by omega) om (fun h => ht h.1)]
                conv => whnf
                repeat' (first
                  | (refine plan_in (id := 12) [0, 1, 2, 3, 4, 5, 6, 7, 8, 9, 10, 11] (by kernel_rfl) (by kernel_rfl) ?_; conv => whnf)
                  | (refine aIf_t ?_; conv => whnf)
                  | (refine aIf_f ?_; conv => whnf)
                  | (refine fun (_ : _ ≤ maxLen) => ?_; conv => whnf)
                  | (refine get_nat0 (by omega) ?_; conv => whnf)
                  | (refine get_int0 (by omega) ?_; conv => whnf)
                  | (refine aGet_in rfl ?_; conv => whnf)
                  | (refine And.intro (by omega) ?_; conv => whnf)
                  | (refine And.intro (Nat.le_of_ble_eq_true rfl) ?_; conv => whnf)
                  | (refine callG_t ?_; conv => whnf)
                  | (refine append_same ?_; conv => whnf)
                  | (refine part_nd_n (by omega) ?_; conv => whnf)
                  | (refine l3Two_call trivial ?_; conv => whnf)
                  | (refine append_int rfl rfl (by first | rfl | (simp only [List.length_take, turned_length]; omega)) (by omega) (Nat.le_of_ble_eq_true rfl) ?_; conv => whnf)
                  | (refine set_force ?_; conv => whnf)
                  | (refine And.intro (And.intro (by kernel_rfl) (And.intro rfl (Nat.le_of_ble_eq_true rfl))) ?_; conv => whnf)
                  | (refine And.intro (by kernel_rfl) ?_; conv => whnf)
                  | refine aIf_eqt ?_
                  | refine aIf_eqf ?_
                  | refine aIf_not ?_
                  | (refine aIf_dec (fun _ => ?_) (fun _ => ?_) <;> conv => whnf))
                all_goals (first | (exfalso; omega) | contradiction | skip)
                all_goals
                  refine next_u (k + 1) (show ns.length - (k + 1) < ns.length - k by omega) (by exact (by omega : k + 1 ≤ ns.length)) ?_
                  conv => whnf
                  repeat' (first
                    | exact trivial
                    | exact rfl
                    | exact pureL_ii _ _
                    | exact pureL_nd _ _
                    | refine le_ints ?_
                    | refine Or.inr ?_
                    | refine And.intro ?_ ?_
                    | exact Nat.le_of_ble_eq_true rfl
                    | exact List.length_append
                    | exact int_eq (by rw [IntWalk.i64_in _ (by omega)] <;> omega))
                all_goals (first | (rw [hn]; done) | (rw [hn]; rfl) | exact hl1 | exact hl1.symm | skip)
      · have he : k = ns.length := by omega
        subst he
        have hw : IntKind.i64.wrap (((dgTo ns ns.length).length : Int) - 1) = ((ns.length - 1 : Nat) : Int) := (IntWalk.i64_in _ (by omega)).trans (by omega)
        have hM : dgM xss ns = (dgTo ns ns.length).getD (ns.length - 1) 0 := dgM_t hS
        conv => whnf
        repeat' (first
          | (refine plan_in (id := 12) [0, 1, 2, 3, 4, 5, 6, 7, 8, 9, 10, 11] (by kernel_rfl) (by kernel_rfl) ?_; conv => whnf)
          | (refine aIf_t ?_; conv => whnf)
          | (refine aIf_f ?_; conv => whnf)
          | (refine fun (_ : _ ≤ maxLen) => ?_; conv => whnf)
          | (refine get_nat0 (by omega) ?_; conv => whnf)
          | (refine get_int0 (by omega) ?_; conv => whnf)
          | (refine aGet_in rfl ?_; conv => whnf)
          | (refine And.intro (by omega) ?_; conv => whnf)
          | (refine callG_t ?_; conv => whnf)
          | (refine append_same ?_; conv => whnf)
          | (refine part_nd_n (by omega) ?_; conv => whnf)
          | (refine l3Two_call trivial ?_; conv => whnf)
          | (refine append_int rfl rfl (by first | rfl | (simp only [List.length_take, turned_length]; omega)) (by omega) (Nat.le_of_ble_eq_true rfl) ?_; conv => whnf)
          | (refine set_force ?_; conv => whnf)
          | refine aIf_eqt ?_
          | refine aIf_eqf ?_
          | refine aIf_not ?_
          | (refine aIf_dec (fun _ => ?_) (fun _ => ?_) <;> conv => whnf))
        all_goals (first | (exfalso; omega) | contradiction | skip)
        rw [hw, Int.toNat_natCast]
        exact retS rfl (congrArg _ hM.symm)
  · have hM := dgM_f hS
    conv => whnf
    repeat' (first
      | (refine plan_in (id := 12) [0, 1, 2, 3, 4, 5, 6, 7, 8, 9, 10, 11] (by kernel_rfl) (by kernel_rfl) ?_; conv => whnf)
      | (refine load_same ?_; conv => whnf)
      | (refine And.intro rfl (And.intro (List.cons_ne_nil _ _) ?_); conv => whnf)
      | (refine And.intro (Nat.le_of_ble_eq_true rfl) ?_; conv => whnf)
      | (refine callG_t ?_; conv => whnf)
      | (refine append_same ?_; conv => whnf)
      | (refine And.intro (pureL_ii _ _) ?_; conv => whnf)
      | (refine And.intro (pureL_nd _ _) ?_; conv => whnf)
      | (refine sSmoothOk_call (by first | omega | assumption | (refine ⟨?_, ?_⟩ <;> first | assumption | omega) | (refine ⟨?_, ?_, ?_⟩ <;> first | assumption | omega)) ?_; conv => whnf)
      | (refine takeN_in ?_; conv => whnf)
      | (refine And.intro (And.intro (by kernel_rfl) (And.intro rfl (Nat.le_of_ble_eq_true rfl))) ?_; conv => whnf)
      | (refine And.intro (by kernel_rfl) ?_; conv => whnf)
      | refine aIf_not ?_
      | (refine aIf_dec (fun _ => ?_) (fun _ => ?_) <;> conv => whnf))
    all_goals (first | contradiction | exact retS rfl (congrArg _ hM.symm))
theorem iDegreeOf_call {c : Nat} {xss : List (List Int)} {ns : List Nd} {env : List AV} {rows : List Row} {ctr low : Nat} {k : AV → St → Prop} (hpre : eP ns) (h : k (.int .i64 (dgM xss ns)) ⟨env, rows, ctr + 1, low⟩) :
    CallB Try.prog 14 ⟨env, rows, ctr, low⟩ [.agg [.sl c xss.length (xss.map (slI c)), .sl c ns.length (ns.flatMap (ndC c))]] k := callS_in iDegreeOf_sound (c, xss, ns) hpre rfl h
theorem sDegreeOf_call {c : Nat} {xss : List (List Int)} {ns : List Nd} {env : List AV} {rows : List Row} {ctr low : Nat} {k : AV → St → Prop} (hpre : eP ns) (h : k (.int .i64 (dgM xss ns)) ⟨env, rows, ctr + 1, low⟩) :
    CallB Try.prog 12 ⟨env, rows, ctr, low⟩ [.agg [.sl c xss.length (xss.map (slI c)), .sl c ns.length (ns.flatMap (ndC c))]] k := callS_in sDegreeOf_sound (c, xss, ns) hpre rfl h
end Go.Proofs.Ytjmdhfjemaoebaa

/- Chapter 3: what the laws do with lists of lists: marks. -/
namespace Go.Proofs.Ytjmdhfjemaoebaa
set_option maxRecDepth 20000
open Go.RowKit Go.Am
attribute [local irreducible] aPlan aGet aIf aLoop aCall RetB NextB CallB CallG aCut aSet aAppend

/-- Lists that hold marks, one behind the other. -/
def marksII (m : Int) : List (List Int) → List (List Int)
  | [] => []
  | xs :: xss => marks m xs.length :: marksII (m + xs.length) xss
theorem marksII_length : ∀ (m : Int) (xss : List (List Int)), (marksII m xss).length = xss.length
  | _, [] => rfl
  | m, xs :: xss => by simp [marksII, marksII_length]
theorem marksII_getD : ∀ (m : Int) (xss : List (List Int)) (k : Nat), k < xss.length → (marksII m xss).getD k [] = marks (m + tot (xss.take k)) (xss.getD k []).length
  | m, xs :: xss, 0, _ => by simp [marksII, tot]
  | m, xs :: xss, k + 1, h => by
    have h' : k < xss.length := by simpa using h
    have := marksII_getD (m + xs.length) xss k h'
    show (marksII (m + xs.length) xss).getD k [] = marks (m + tot (xs :: xss.take k)) (xss.getD k []).length
    rw [this]
    have e : tot (xs :: xss.take k) = xs.length + tot (xss.take k) := by simp [tot]
    rw [e]; congr 1; omega
theorem own_marks (t : TypeId) (m : Int) (n : Nat) : AV.own t 1 n ((marks m n).map (.int .i64)) = ownI t (marks m n) := by unfold ownI; rw [marks_length]
def sMarkII : CSpec := fnMR (ι := List (List Int) × Int) 34 1 (fun x => x.1.length) (fun x => x.1.map (ownI 3)) (fun x => x.2) (fun x => x.1.length ≤ 1048576 ∧ tot x.1 ≤ 1048576 ∧ 0 ≤ x.2 ∧ x.2 ≤ 100000000000) (fun x => x.2 + tot x.1) (fun x => (marksII x.2 x.1).map (ownI 3))
set_option maxHeartbeats 4000000 in
theorem markII_sound : Sound Try.prog 44 sMarkII := by
  refine sound_of Try.func44 rfl (enters_of Try.func44 (by kernel_rfl) (by kernel_rfl)) ?_
  rintro ⟨xss, m⟩ hpre
  have hpre : xss.length ≤ 1048576 ∧ tot xss ≤ 1048576 ∧ 0 ≤ m ∧ m ≤ 100000000000 := hpre
  have hmax : maxLen = 9223372036854775807 := rfl
  conv => whnf
  dsimp only
  repeat' (first
    | (refine append_same ?_; conv => whnf))
  refine loop_u (ι := Nat × List (List Int)) [true, true, false, false, false, true, false, false, false, false, false, false, false, false, false, false, false, false, false] (fun | (k, _) => [(1, .int .i64 (m + tot (xss.take k))), (5, .int .i64 k)]) (fun | (_, L) => [(0, L.map (ownI 3))]) (fun | (k, L) => k ≤ xss.length ∧ L.length = xss.length ∧ (∀ j, j < k → L.getD j [] = (marksII m xss).getD j []) ∧ (∀ j, k ≤ j → L.getD j [] = xss.getD j [])) (fun x => xss.length - x.1) ((0, xss)) ⟨Nat.zero_le _, rfl, fun j hj => absurd hj (Nat.not_lt_zero _), fun _ _ => rfl⟩ ?_ ?_
  · conv => whnf
    repeat' (first | exact Or.inl (And.intro (pureL_oi _ _) rfl) | refine And.intro ?_ ?_)
    repeat' (first
      | exact trivial
      | exact rfl
      | exact Nat.le_of_ble_eq_true rfl
      | exact int_eq (Int.add_zero _).symm)
    all_goals exact int_eq (by simp [tot])
  · rintro ⟨k, L⟩ ⟨hk, hL, h1, h2⟩
    have hk : k ≤ xss.length := hk
    have hL : L.length = xss.length := hL
    have h1 : ∀ j, j < k → L.getD j [] = (marksII m xss).getD j [] := h1
    have h2 : ∀ j, k ≤ j → L.getD j [] = xss.getD j [] := h2
    have ht := sum_take_le List.length xss k
    have ht' : tot (xss.take k) ≤ tot xss := ht
    by_cases hlt : k < xss.length
    · have e2 := h2 k (Nat.le_refl _)
      have hll : (L.getD k []).length = (xss.getD k []).length := by rw [e2]
      have hl := len_le_tot hlt
      have hs := tot_succ hlt
      conv => whnf
      repeat' (first
        | (refine fun (_ : _ ≤ maxLen) => ?_; conv => whnf)
        | (refine And.intro (by omega) ?_; conv => whnf)
        | (refine mark_call rfl (by rfl) (by omega) ?_; conv => whnf)
        | (refine append_same ?_; conv => whnf)
        | (refine get_oi_n (by omega) ?_; conv => whnf)
        | (refine aIf_dec (fun _ => ?_) (fun _ => ?_) <;> conv => whnf))
      all_goals (first | (exfalso; omega) | skip)
      refine next_ut (k + 1, L.set k (marks (m + tot (xss.take k)) (L.getD k []).length)) (show xss.length - (k + 1) < xss.length - k by omega) ⟨(by omega : k + 1 ≤ xss.length), (by rw [List.length_set]; exact hL : (L.set k _).length = xss.length), fun j hj => ?_, fun j hj => ?_⟩ ?_
      · have hj : j < k + 1 := hj
        show (L.set k _).getD j [] = _
        rw [getD_setG (by omega)]
        split
        · rename_i e; rw [← e, marksII_getD m xss k hlt, hll]
        · exact h1 j (by omega)
      · have hj : k + 1 ≤ j := hj
        show (L.set k _).getD j [] = _
        rw [getD_setG (by omega), if_neg (by omega)]
        exact h2 j (by omega)
      · conv => whnf
        refine to_close 0 (0 + (k : Int).toNat * 1) 1 1 _ 1 3 _ _ rfl (get_setC (by omega)) rfl (by decide) (Nat.le_of_ble_eq_true rfl) (by decide) (by simp [marks_length]) ?_
        refine St.le.to ?_
        conv => whnf
        repeat' (first | exact le_setC (by omega) (own_marks _ _ _) (ownI_pure _) | refine And.intro ?_ ?_)
        repeat' (first
          | exact trivial
          | exact rfl
          | exact Nat.le_of_ble_eq_true rfl
          | exact int_eq (by omega)
          | exact int_eq (by rw [IntWalk.i64_in _ (by omega)] <;> omega))
    · have e : k = xss.length := by omega
      have et := tot_all e
      have eL : L = marksII m xss := getD_extG (d := []) (by rw [marksII_length]; exact hL) fun j hj => h1 j (by rw [marksII_length] at hj; omega)
      conv => whnf
      repeat' (first
        | (refine fun (_ : _ ≤ maxLen) => ?_; conv => whnf)
        | (refine And.intro (by omega) ?_; conv => whnf)
        | (refine mark_call rfl (by rfl) (by omega) ?_; conv => whnf)
        | (refine append_same ?_; conv => whnf)
        | (refine get_oi_n (by omega) ?_; conv => whnf)
        | (refine aIf_dec (fun _ => ?_) (fun _ => ?_) <;> conv => whnf))
      all_goals (first | (exfalso; omega) | skip)
      exact retMR (protL_oi _ _) (by rw [et]) (by rw [eL])
theorem markII_call {xss : List (List Int)} {m : Int} {env : List AV} {rows : List Row} {ctr low τ ver n : Nat} {k : AV → St → Prop} (hr : rows[τ]? = some ⟨ver, 34, 1, xss.map (ownI 3)⟩) (hn : n = xss.length) (hpre : xss.length ≤ 1048576 ∧ tot xss ≤ 1048576 ∧ 0 ≤ m ∧ m ≤ 100000000000)
    (hk : k (.int .i64 (m + tot xss)) ⟨env, setRows rows [τ] [(marksII m xss).map (ownI 3)], ctr + 1, low⟩) : CallG Try.prog 44 ⟨env, rows, ctr, low⟩ [.ref τ ver 0 n, .int .i64 m] k :=
  callMR_in markII_sound (xss, m) hpre (protL_oi _ _) (protL_oi _ _) hr hn rfl hk

/-- Nodes whose lists are as long as others'. -/
def likeN (ns L : List Nd) : Prop := L.length = ns.length ∧ ∀ j, (L.getD j default).l.length = (ns.getD j default).l.length
def sMarkN : CSpec := fnMX (ι := List Nd × Int) (β := List Nd) 80 4 (fun x => x.1.length) (fun x => x.1.flatMap (ndO 3)) (fun x => x.2) (fun x => x.1.length ≤ 1048576 ∧ ntot x.1 ≤ 1048576 ∧ 0 ≤ x.2 ∧ x.2 ≤ 100000000000) (fun x => x.2 + 3 * x.1.length + ntot x.1) (fun x y => likeN x.1 y) (fun L => L.flatMap (ndO 3))
end Go.Proofs.Ytjmdhfjemaoebaa

/- Chapter 3: what the laws do with an expression that they handed in: marks. -/
namespace Go.Am
open Go.RowKit
/-- A call that writes into a struct's two rows, leaves the first one as told and the second one as one of many, and answers a number. -/
def fnMX2 {ι β : Type} (t : TypeId) (z : Nat) (t' : TypeId) (z' : Nat) (n n' : ι → Nat) (cells cells' : ι → List AV) (m : ι → Int) (pre : ι → Prop) (r : ι → Int) (out : ι → List AV) (out' : β → List AV) : CSpec :=
  { ι := ι, inout := [true], args := fun x => [.agg [.ref 0 0 0 (n x), .ref 1 0 0 (n' x)], .int .i64 (m x)], ins := fun x => [⟨0, t, z, cells x⟩, ⟨0, t', z', cells' x⟩], pre := pre, post := fun x u ic news => u = .int .i64 (r x) ∧ (∃ y, ic = [out x, out' y]) ∧ news = [] }
theorem callMX2_in {P : Program} {f : FuncId} {ι β : Type} {t t' : TypeId} {z z' : Nat} {n n' : ι → Nat} {cells cells' : ι → List AV} {m : ι → Int} {pre : ι → Prop} {r : ι → Int} {out : ι → List AV} {out' : β → List AV} (hs : Sound P f (fnMX2 t z t' z' n n' cells cells' m pre r out out')) (x : ι) (hpre : pre x) (hp : protL (cells x) = true) (hp' : protL (cells' x) = true) (ho : protL (out x) = true) (ho' : ∀ y, protL (out' y) = true) {env : List AV} {rows : List Row} {ctr low τ1 τ2 v1 v2 n1 n2 : Nat} {i : Int} {k : AV → St → Prop}
    (h1 : rows[τ1]? = some ⟨v1, t, z, cells x⟩) (h2 : rows[τ2]? = some ⟨v2, t', z', cells' x⟩) (hne : τ1 ≠ τ2) (e1 : n1 = n x) (e2 : n2 = n' x) (hi : i = m x) (hk : ∀ y, k (.int .i64 (r x)) ⟨env, setRows rows [τ1, τ2] [out x, out' y], ctr + 1, low⟩) :
    CallG P f ⟨env, rows, ctr, low⟩ [.agg [.ref τ1 v1 0 n1, .ref τ2 v2 0 n2], .int .i64 i] k := by
  subst e1; subst e2; subst hi
  refine .inr ⟨[τ1, τ2], _, hs, [.agg [.ref 0 0 0 (n x), .ref 1 0 0 (n' x)], .int .i64 (m x)], [⟨0, t, z, cells x⟩, ⟨0, t', z', cells' x⟩], by simpa using hne, ?_, ?_, x, rfl, rfl, hpre, ?_⟩
  · have hb : (τ1 == τ2) = false := by simpa using hne
    have ea : callArg ⟨env, rows, ctr, low⟩ [τ1, τ2] true (.agg [.ref τ1 v1 0 (n x), .ref τ2 v2 0 (n' x)]) = some (.agg [.ref 0 0 0 (n x), .ref 1 0 0 (n' x)]) := by
      simp [callArg, AV.ren, renL, h1, h2, List.idxOf, List.findIdx_cons, hb]
    show (callArg ⟨env, rows, ctr, low⟩ [τ1, τ2] true (.agg [.ref τ1 v1 0 (n x), .ref τ2 v2 0 (n' x)])).bind _ = _
    rw [ea]
    rfl
  · simp [insOf, h1, h2, protL_ren hp, protL_ren hp']
  · rintro u ic news ⟨rfl, ⟨y, rfl⟩, rfl⟩ _
    show k (.int .i64 (r x)) ⟨env, setRows rows [τ1, τ2] [backL _ [τ1, τ2] (out x), backL _ [τ1, τ2] (out' y)] ++ [], ctr + 1, low⟩
    rw [List.append_nil, protL_back ho, protL_back (ho' y)]; exact hk y
theorem retMX2 {β : Type} {env : List AV} {ctr : Nat} {t t' : TypeId} {z z' : Nat} {cells cells' o1 o2 out : List AV} {out' : β → List AV} {v1 v2 : Nat} {rest : List Row} {i i' : Int} (y : β) (hp : protL o1 = true) (hp' : protL o2 = true) (e : i = i') (hc : o1 = out) (hc' : o2 = out' y) :
    RetB ⟨env, ⟨v1, t, z, o1⟩ :: ⟨v2, t', z', o2⟩ :: rest, ctr, 2⟩ [⟨0, t, z, cells⟩, ⟨0, t', z', cells'⟩] (fun u ic news => u = .int .i64 i' ∧ (∃ y, ic = [out, out' y]) ∧ news = []) (.int .i64 i) := by
  subst e; subst hc; subst hc'
  refine RetB1.ret ⟨[], [⟨0, t, z, o1⟩, ⟨0, t', z', out' y⟩], .int .i64 i, [o1, out' y], [], (show ([0, 1] : List Nat).Nodup by decide), ?_, rfl, rfl, rfl, rfl, ⟨y, rfl⟩, rfl⟩
  show insOf _ [0, 1] [0, 1] = _
  simp [insOf, protL_ren hp, protL_ren hp']
end Go.Am
namespace Go.Proofs.Ytjmdhfjemaoebaa
set_option maxRecDepth 20000
open Go.RowKit Go.Am
attribute [local irreducible] aPlan aGet aIf aLoop aCall RetB NextB CallB CallG aCut aSet aAppend
def sMarkE : CSpec := fnMX2 (ι := List (List Int) × List Nd × Int) (β := List Nd) 34 1 80 4 (fun x => x.1.length) (fun x => x.2.1.length) (fun x => x.1.map (ownI 3)) (fun x => x.2.1.flatMap (ndO 3)) (fun x => x.2.2) (fun x => eSize x.1 x.2.1 ≤ 1048576 ∧ 0 ≤ x.2.2 ∧ x.2.2 ≤ 1000000) (fun x => x.2.2 + tot x.1 + 3 * x.2.1.length + ntot x.2.1) (fun x => (marksII x.2.2 x.1).map (ownI 3)) (fun L => L.flatMap (ndO 3))
end Go.Proofs.Ytjmdhfjemaoebaa

/- Lists of tensors as a law's arguments. -/
namespace Go.Proofs.Ytjmdhfjemaoebaa
set_option maxRecDepth 20000
open Go.RowKit Go.Am Go.WideShapes Go.ChangeShapes
theorem uTes : Try.prog.underlying 51 = some (.slice 36) := by kernel_rfl
theorem cell_te2 : Try.prog.cellsOf 36 = 2 := by kernel_rfl
theorem tensFs : fieldsAre Try.prog 36 [(34, 0), (34, 1)] = true := by kernel_rfl
theorem cells_tn (us : List AV) (h : CellsOk Try.prog 36 us) : ∃ n : T2, us = tnC 1 n ∧ True := by
  obtain ⟨hl, hf⟩ := fields_ok tensFs h
  rw [cell_te2] at hl
  match us, hl with
  | [a, b], _ =>
    have h0 := hf (34, 0) (by simp)
    have h1 := hf (34, 1) (by simp)
    simp only [cell_ints1] at h0 h1
    obtain ⟨xs, e0, -⟩ := cellsInts uInts uInt h0
    obtain ⟨zs, e1, -⟩ := cellsInts uInts uInt h1
    simp at e0 e1
    exact ⟨(xs, zs), by rw [e0, e1]; rfl, trivial⟩
theorem argTs {av : AV} (h : ArgR Try.prog 51 av) : ∃ ts : List T2, av = .sl 1 ts.length (ts.flatMap (tnC 1)) := by
  unfold ArgR at h
  rw [uTes] at h
  obtain ⟨ts, e, -⟩ := cells_slice uTes h cells_tn
  exact ⟨ts, by simpa using e⟩
end Go.Proofs.Ytjmdhfjemaoebaa

/- Chapter 3: InputsOk of both sides. -/
namespace Go.Proofs.Ytjmdhfjemaoebaa
set_option maxRecDepth 20000
open Go.RowKit Go.Am
set_option linter.unusedSimpArgs false
attribute [local irreducible] aPlan aGet aIf aLoop aCall RetB NextB CallB CallG aCut aSet aAppend
abbrev t0 : T2 := ([], [])
def inK (xss : List (List Int)) (ts : List T2) (j : Nat) : Prop := tensorOk (ts.getD j t0).1 (ts.getD j t0).2 = true ∧ (ts.getD j t0).1 = xss.getD j []
instance (xss : List (List Int)) (ts : List T2) (j : Nat) : Decidable (inK xss ts j) := by unfold inK; infer_instance
def inP (xss : List (List Int)) (ns : List Nd) (ts : List T2) : Prop := (shM xss ns).2 = true ∧ ts.length = xss.length ∧ ∀ j, j < ts.length → inK xss ts j
instance (xss : List (List Int)) (ns : List Nd) (ts : List T2) : Decidable (inP xss ns ts) := by unfold inP; infer_instance
theorem inP_f {xss : List (List Int)} {ns : List Nd} {ts : List T2} (h : ¬ inP xss ns ts) : AV.bool false = AV.bool (decide (inP xss ns ts)) := congrArg AV.bool (decide_eq_false h).symm
theorem inP_t {xss : List (List Int)} {ns : List Nd} {ts : List T2} (h : inP xss ns ts) : AV.bool true = AV.bool (decide (inP xss ns ts)) := congrArg AV.bool (decide_eq_true h).symm
def sInputsOk : CSpec := fnS (ι := Nat × List (List Int) × List Nd × Nat × List T2) (fun | (c, xss, ns, d, ts) => [.agg [.sl c xss.length (xss.map (slI c)), .sl c ns.length (ns.flatMap (ndC c))], .sl d ts.length (ts.flatMap (tnC d))]) (fun | (_, _, ns, _, _) => eP ns) (fun | (_, xss, ns, _, ts) => .bool (decide (inP xss ns ts)))
end Go.Proofs.Ytjmdhfjemaoebaa

/- Chapter 3: the tensor of a node, of the program. -/
namespace Go.Proofs.Ytjmdhfjemaoebaa
set_option maxRecDepth 20000
open Go.RowKit Go.Am
set_option linter.unusedSimpArgs false
attribute [local irreducible] aPlan aGet aIf aLoop aCall RetB NextB CallB CallG aCut aSet aAppend
/-- Whether each is a tensor. -/
def allT (ts : List T2) : Prop := ∀ j, j < ts.length → tensorOk (ts.getD j ([], [])).1 (ts.getD j ([], [])).2 = true
/-- What is the tensor of a node. -/
def vlM (x : Nd) (ts vs : List T2) : TM :=
  if x.op = 0 then ((ts.getD x.a.toNat ([], [])).1, (ts.getD x.a.toNat ([], [])).2, true) else if x.op = 1 then ([], [x.a], true)
  else comM x (vs.getD x.a.toNat ([], [])).1 (vs.getD x.a.toNat ([], [])).2 (vs.getD x.b.toNat ([], [])).1 (vs.getD x.b.toNat ([], [])).2
theorem allT_len {ts : List T2} (h : allT ts) {j : Nat} (hj : j < ts.length) : (ts.getD j ([], [])).1.length ≤ 3 ∧ (ts.getD j ([], [])).2.length ≤ 64 := by
  obtain ⟨h1, h2, -⟩ := (tensorOk_iff _ _).1 (h j hj)
  have hc := cnt64 h1 (Nat.le_refl _)
  exact ⟨((shapeOk_iff _).1 h1).1, by omega⟩
def vPre (x : Nd) (ts vs : List T2) : Prop := formP x vs.length ts.length ∧ allT ts ∧ allT vs ∧ x.l.length ≤ 1048576 ∧ wfL x.l
end Go.Proofs.Ytjmdhfjemaoebaa
