/- Draws: shapes. -/
import Derived.Test.YtmhpandbmoalaaaP25
import Derived.Test.YtmhpandbmoalaaaP1
import Derived.Test.YtmhpandbmoalaaaP15
namespace Go.Proofs.Ytmhpandbmoalaaa
open Go.RowKit Go.Am
theorem append_row {env : List AV} {rows : List Row} {ctr low τ ver n τ2 ver2 m : Nat} {zs ws : List Int} {k : AV → St → Prop} (hr : rows[τ]? = some ⟨ver, 3, 1, zs.map (.int .i64)⟩) (hr2 : rows[τ2]? = some ⟨ver2, 3, 1, ws.map (.int .i64)⟩) (hn : n = zs.length) (hm : m = ws.length) (hle : n + m ≤ 1000000) (hlow : low ≤ τ)
    (h0 : ws = [] → k (.ref τ ver 0 n) ⟨env, rows, ctr, low⟩)
    (hk : k (.ref τ ctr 0 (n + m)) ⟨env, rows.set τ ⟨ctr, 3, 1, (zs ++ ws).map (.int .i64)⟩, ctr + 1, low⟩) : aAppend Try.prog ⟨env, rows, ctr, low⟩ 23 (.ref τ ver 0 n) (.ref τ2 ver2 0 m) k := by
  have hb : (bsz Try.prog 3) = some 8 := by kernel_rfl
  have hz : zeroCellsA Try.prog 3 = some [.int .i64 0] := by kernel_rfl
  have hu : Try.prog.underlying 23 = some (.slice 3) := by kernel_rfl
  have hs : ∀ K : Nat → Prop, K 1 → aSz Try.prog 3 K := fun K h => by
    have : tsz Try.prog 3 = some 1 := by kernel_rfl
    unfold aSz; rw [this]; exact h
  subst hn; subst hm
  unfold aAppend
  rw [hu]
  simp only
  rw [hz]
  simp only
  refine hs _ ?_
  unfold aElems aRow
  simp only [hr2]
  rw [if_pos trivial, if_pos (.inr trivial)]
  have e2 : ((ws.map (AV.int .i64)).drop 0).take (ws.length * 1) = ws.map (.int .i64) := by rw [Nat.mul_one, List.drop_zero]; exact List.take_of_length_le (by simp)
  rw [e2]
  refine ⟨by simp, ⟨rfl, by rw [hb]; rfl, by rw [hb]; decide⟩, ?_⟩
  simp only [hr]
  rw [if_pos trivial, if_pos (by simp)]
  refine ⟨by simp, fun h => h0 (List.eq_nil_of_length_eq_zero h), fun h0' h => ?_, fun _ _ => ⟨hlow, by rw [hb]; simp only [Option.getD_some]; omega, ?_⟩⟩
  · exfalso; simp at h; omega
  · have e : (zs.map (AV.int .i64)).take zs.length = zs.map (.int .i64) := List.take_of_length_le (by simp)
    simpa [e] using hk
attribute [local irreducible] aGet aIf aLoop aCall aCallQ RetB NextB CallB CallG aCut aSet aAppend

theorem append_int3 {env : List AV} {rows : List Row} {ctr low τ ver n τ2 ver2 m : Nat} {zs : List Int} {a b c : Int} {k : AV → St → Prop} (hr : rows[τ]? = some ⟨ver, 3, 1, zs.map (.int .i64)⟩) (hr2 : rows[τ2]? = some ⟨ver2, 3, 1, [.int .i64 a, .int .i64 b, .int .i64 c]⟩) (hn : n = zs.length) (hm : m = 3) (hle : n + m ≤ 1000000) (hlow : low ≤ τ)
    (hk : k (.ref τ ctr 0 (n + m)) ⟨env, rows.set τ ⟨ctr, 3, 1, (zs ++ [a, b, c]).map (.int .i64)⟩, ctr + 1, low⟩) : aAppend Try.prog ⟨env, rows, ctr, low⟩ 23 (.ref τ ver 0 n) (.ref τ2 ver2 0 m) k :=
  append_row (ws := [a, b, c]) hr hr2 hn hm hle hlow (fun h => by cases h) hk

abbrev newL (q : List Int → Prop) (r : AV) (news : List Row) : Prop := ∃ zs, r = .ref 1 0 0 zs.length ∧ news = [⟨0, 3, 1, zs.map (.int .i64)⟩] ∧ q zs
set_option maxRecDepth 10000 in
theorem l1Draw_sound : Sound Try.prog 64 (fnD (ι := Unit) 55 (fun _ => 4) (fun _ => []) (fun _ => True) (fun _ => newL (fun zs => shapeOk zs = true))) := by
  refine sound_of Try.func64 rfl (enters_of Try.func64 (by kernel_rfl) (by kernel_rfl)) ?_
  rintro ⟨⟨⟩, bs, p⟩ ⟨-, hb, hp0, hp1⟩
  have hp0 : 0 ≤ p := hp0
  have hp1 : p + 4 ≤ 1000000000 := hp1
  have hb : bytesOk bs := hb
  conv => whnf
  repeat' (first
    | (refine aIf_t ?_; conv => whnf)
    | (refine aIf_f ?_; conv => whnf)
    | (refine fun (_ : _ ≤ maxLen) => ?_; conv => whnf)
    | (refine get_nat (by omega) ?_; conv => whnf)
    | (refine get_int (by omega) ?_; conv => whnf)
    | (refine get_nat0 (by omega) ?_; conv => whnf)
    | (refine get_int0 (by omega) ?_; conv => whnf)
    | (refine aGet_in rfl ?_; conv => whnf)
    | (refine And.intro (And.intro rfl (And.intro (by kernel_rfl) (And.intro rfl (by kernel_rfl)))) (And.intro (And.intro (by omega) (And.intro (bytes_le (b := 8) rfl (by omega)) (by omega))) ?_); conv => whnf)
    | (refine And.intro (by omega) ?_; conv => whnf)
    | (refine And.intro (by rw [List.length_map]; omega) ?_; conv => whnf)
    | (refine And.intro rfl (And.intro (List.cons_ne_nil _ _) ?_); conv => whnf)
    | (refine And.intro (Nat.le_of_ble_eq_true rfl) ?_; conv => whnf)
    | (refine mark_call rfl (by rfl) (by omega) ?_; conv => whnf)
    | (refine pick_call rfl (by assumption) (by omega) (fun _ _ _ _ _ => ?_); conv => whnf)
    | (refine num_call6 rfl rfl (by decide) rfl (by assumption) (by omega) (fun _ _ _ _ => ?_); conv => whnf)
    | (refine l1Draw_call rfl (by assumption) (by omega) (fun _ _ _ _ => ?_); conv => whnf)
    | (refine l1Any_call rfl (by assumption) (by omega) (fun _ _ _ _ => ?_); conv => whnf)
    | (refine l1Under_call rfl rfl (by decide) rfl (by omega) (by assumption) (by omega) (fun _ _ _ _ => ?_); conv => whnf)
    | (refine callG_t ?_; conv => whnf)
    | (refine And.intro (pureL_ints _ _) ?_; conv => whnf)
    | (refine cut_ints ?_; conv => whnf)
    | (refine cut_marks ?_; conv => whnf)
    | (refine cut_all rfl (scalL_ints _ _) ?_; conv => whnf)
    | (refine cut_all (by simp only [List.length_map]; omega) (scalL_ints _ _) ?_; conv => whnf)
    | (refine in_call ?_; conv => whnf)
    | (refine l40Open_call (by assumption) (fun _ _ => ?_); conv => whnf)
    | (refine drawJoin_call (by assumption) (fun _ _ _ => ?_); conv => whnf)
    | (refine drawSpread_call (by assumption) (fun _ _ _ _ => ?_); conv => whnf)
    | (refine teInts_call ?_; conv => whnf)
    | (refine sShapeOk_call ?_; conv => whnf)
    | (refine iShapeOk_call ?_; conv => whnf)
    | (refine toIntS_call (by omega) ?_; conv => whnf)
    | (refine eqIntS_call ?_; conv => whnf)
    | (refine in_callQ ?_; conv => whnf)
    | (refine l1Count_call ?_; conv => whnf)
    | (refine placeOk_call ?_; conv => whnf)
    | (refine l1Index_call (by assumption) ?_; conv => whnf)
    | (refine sIndexAt_call ?_; conv => whnf)
    | (refine iIndexAt_call ?_; conv => whnf)
    | (refine sCountOf_call ?_; conv => whnf)
    | (refine iCountOf_call ?_; conv => whnf)
    | (refine l1Strides_call (by omega) ?_; conv => whnf)
    | (refine append_int rfl rfl (by first | rfl | (simp only [List.length_take, turned_length]; omega)) (by omega) (Nat.le_of_ble_eq_true rfl) ?_; conv => whnf)
    | (refine append_int3 rfl rfl rfl rfl (by omega) (Nat.le_of_ble_eq_true rfl) ?_; conv => whnf)
    | (refine l1Turn_call (by assumption) ?_; conv => whnf)
    | (refine l1Place_call (by assumption) ?_; conv => whnf)
    | (refine sPlaceAt_call (by omega) ?_; conv => whnf)
    | (refine iPlaceAt_call (by omega) ?_; conv => whnf)
    | (refine sizeBefore_call (by omega) ?_; conv => whnf)
    | (refine l1Axis_call (by omega) ?_; conv => whnf)
    | (refine l1Join_call (And.intro (by assumption) (by assumption)) ?_; conv => whnf)
    | (refine sJoin_call ?_; conv => whnf)
    | (refine iJoin_call ?_; conv => whnf)
    | (refine l1Same_call ?_; conv => whnf)
    | (refine l1Index_n (by omega) (by omega) ?_; conv => whnf)
    | (refine sameNums_call ?_; conv => whnf)
    | (refine l1Spread_call (And.intro (by assumption) (by assumption)) ?_; conv => whnf)
    | (refine sSpreadIndex_call (by omega) ?_; conv => whnf)
    | (refine iSpreadIndex_call (by omega) ?_; conv => whnf)
    | (refine sTurnShape_call (by omega) ?_; conv => whnf)
    | (refine iTurnShape_call (by omega) ?_; conv => whnf)
    | (refine sBackTurn_call (by omega) ?_; conv => whnf)
    | (refine iBackTurn_call (by omega) ?_; conv => whnf)
    | (refine sStridesOf_call (by omega) ?_; conv => whnf)
    | (refine iStridesOf_call (by omega) ?_; conv => whnf)
    | (refine And.intro rfl (And.intro rfl (And.intro (by first | omega | (rw [List.length_map]; omega)) ?_)); conv => whnf)
    | (refine set_nat ?_ (by omega); conv => whnf)
    | (refine set_int ?_ (by omega); conv => whnf)
    | (refine set_bool ?_ (by omega); conv => whnf)
    | (refine set_force ?_; conv => whnf)
    | (refine get_bool0 (by omega) ?_; conv => whnf)
    | (refine And.intro (And.intro rfl (And.intro (by kernel_rfl) (And.intro rfl (by kernel_rfl)))) (And.intro (And.intro (by omega) (And.intro (bytes_le (b := 1) rfl (by omega)) (by omega))) ?_); conv => whnf)
    | (refine sTurnOk_call ?_; conv => whnf)
    | (refine held_marks_call rfl (by omega) ?_; conv => whnf)
    | (refine iTurnOk_call ?_; conv => whnf)
    | (refine And.intro (And.intro (by kernel_rfl) (And.intro rfl (Nat.le_of_ble_eq_true rfl))) ?_; conv => whnf)
    | (refine And.intro (And.intro (by kernel_rfl) (by kernel_rfl)) ?_; conv => whnf)
    | (refine And.intro (by kernel_rfl) ?_; conv => whnf)
    | refine aIf_eqt ?_
    | refine aIf_eqf ?_
    | refine aIf_not ?_
    | (refine aIf_bself ?_; conv => whnf)
    | (refine aIf_beself ?_; conv => whnf)
    | (refine aIf_iself ?_; conv => whnf)
    | (refine aIf_decself ?_; conv => whnf)
    | (refine aIf_dec (fun _ => ?_) (fun _ => ?_) <;> conv => whnf)
    | (refine aIf_beq (fun _ => ?_) (fun _ => ?_) <;> conv => whnf)
    | (refine aIf_bne (fun _ => ?_) (fun _ => ?_) <;> conv => whnf)
    | (refine aIf_bbne (fun _ => ?_) (fun _ => ?_) <;> conv => whnf)
    | (refine aIf_bbeq (fun _ => ?_) (fun _ => ?_) <;> conv => whnf)
    | (refine aIf_in (fun _ => ?_) (fun _ => ?_) <;> conv => whnf))
  rename_i p1 z hp' hz _
  refine loop_in (ι := Nat × List Int × Int) (fun | (n, zs, q) => ⟨[.ptr 0 0 0, .un, .un, .ref 2 3 0 zs.length, .int .i64 n, .un, .un, .un, .un, .un, .un, .un, .un, .un, .un, .un, .un, .un, .un], [boxR 0 bs q, ⟨1, 3, 1, []⟩, ⟨3, 3, 1, zs.map (.int .i64)⟩], 4, 1⟩)
    (fun x => x.1 + x.2.1.length ≤ 3 ∧ (∀ z ∈ x.2.1, 1 ≤ z ∧ z ≤ 4) ∧ 0 ≤ x.2.2 ∧ x.2.2 ≤ p + 1 + x.2.1.length) (fun x => x.1) (z.toNat, [], p1) ⟨by simp; omega, by simp, hp'.1, by simp; omega⟩ ?_ ?_
  · repeat' (first
      | exact trivial
      | exact rfl
      | exact pureL_ints _ _
      | exact pureL_bools _
      | exact Or.inl (And.intro rfl rfl)
      | exact Or.inl (And.intro (pureL_box _ _) rfl)
      | exact le_ints rfl
      | exact le_ints (rep_ints _ _)
      | exact le_bools rfl
      | exact le_bools (rep_bools _)
      | refine le_ints ?_
      | refine And.intro ?_ ?_
      | exact Nat.le_of_ble_eq_true rfl
      | exact Nat.zero_le _
      | exact int_eq (by assumption)
      | exact int_eq (by omega)
      | exact int_eq (Int.add_zero _).symm
      | exact List.length_append
      | exact int_eq (by rw [IntWalk.i64_in _ (by omega)] <;> omega))
  · rintro ⟨n, zs, q⟩ ⟨h1, h2, h3, h4⟩
    have h1 : n + zs.length ≤ 3 := h1
    have h2 : ∀ z ∈ zs, 1 ≤ z ∧ z ≤ 4 := h2
    have h3 : 0 ≤ q := h3
    have h4 : q ≤ p + 1 + zs.length := h4
    conv => whnf
    repeat' (first
      | (refine aIf_t ?_; conv => whnf)
      | (refine aIf_f ?_; conv => whnf)
      | (refine fun (_ : _ ≤ maxLen) => ?_; conv => whnf)
      | (refine get_nat (by omega) ?_; conv => whnf)
      | (refine get_int (by omega) ?_; conv => whnf)
      | (refine get_nat0 (by omega) ?_; conv => whnf)
      | (refine get_int0 (by omega) ?_; conv => whnf)
      | (refine aGet_in rfl ?_; conv => whnf)
      | (refine And.intro (And.intro rfl (And.intro (by kernel_rfl) (And.intro rfl (by kernel_rfl)))) (And.intro (And.intro (by omega) (And.intro (bytes_le (b := 8) rfl (by omega)) (by omega))) ?_); conv => whnf)
      | (refine And.intro (by omega) ?_; conv => whnf)
      | (refine And.intro (by rw [List.length_map]; omega) ?_; conv => whnf)
      | (refine And.intro rfl (And.intro (List.cons_ne_nil _ _) ?_); conv => whnf)
      | (refine And.intro (Nat.le_of_ble_eq_true rfl) ?_; conv => whnf)
      | (refine mark_call rfl (by rfl) (by omega) ?_; conv => whnf)
      | (refine pick_call rfl (by assumption) (by omega) (fun _ _ _ _ _ => ?_); conv => whnf)
      | (refine num_call6 rfl rfl (by decide) rfl (by assumption) (by omega) (fun _ _ _ _ => ?_); conv => whnf)
      | (refine l1Draw_call rfl (by assumption) (by omega) (fun _ _ _ _ => ?_); conv => whnf)
      | (refine l1Any_call rfl (by assumption) (by omega) (fun _ _ _ _ => ?_); conv => whnf)
      | (refine l1Under_call rfl rfl (by decide) rfl (by omega) (by assumption) (by omega) (fun _ _ _ _ => ?_); conv => whnf)
      | (refine callG_t ?_; conv => whnf)
      | (refine And.intro (pureL_ints _ _) ?_; conv => whnf)
      | (refine cut_ints ?_; conv => whnf)
      | (refine cut_marks ?_; conv => whnf)
      | (refine cut_all rfl (scalL_ints _ _) ?_; conv => whnf)
      | (refine cut_all (by simp only [List.length_map]; omega) (scalL_ints _ _) ?_; conv => whnf)
      | (refine in_call ?_; conv => whnf)
      | (refine l40Open_call (by assumption) (fun _ _ => ?_); conv => whnf)
      | (refine drawJoin_call (by assumption) (fun _ _ _ => ?_); conv => whnf)
      | (refine drawSpread_call (by assumption) (fun _ _ _ _ => ?_); conv => whnf)
      | (refine teInts_call ?_; conv => whnf)
      | (refine sShapeOk_call ?_; conv => whnf)
      | (refine iShapeOk_call ?_; conv => whnf)
      | (refine toIntS_call (by omega) ?_; conv => whnf)
      | (refine eqIntS_call ?_; conv => whnf)
      | (refine in_callQ ?_; conv => whnf)
      | (refine l1Count_call ?_; conv => whnf)
      | (refine placeOk_call ?_; conv => whnf)
      | (refine l1Index_call (by assumption) ?_; conv => whnf)
      | (refine sIndexAt_call ?_; conv => whnf)
      | (refine iIndexAt_call ?_; conv => whnf)
      | (refine sCountOf_call ?_; conv => whnf)
      | (refine iCountOf_call ?_; conv => whnf)
      | (refine l1Strides_call (by omega) ?_; conv => whnf)
      | (refine append_int rfl rfl (by first | rfl | (simp only [List.length_take, turned_length]; omega)) (by omega) (Nat.le_of_ble_eq_true rfl) ?_; conv => whnf)
      | (refine append_int3 rfl rfl rfl rfl (by omega) (Nat.le_of_ble_eq_true rfl) ?_; conv => whnf)
      | (refine l1Turn_call (by assumption) ?_; conv => whnf)
      | (refine l1Place_call (by assumption) ?_; conv => whnf)
      | (refine sPlaceAt_call (by omega) ?_; conv => whnf)
      | (refine iPlaceAt_call (by omega) ?_; conv => whnf)
      | (refine sizeBefore_call (by omega) ?_; conv => whnf)
      | (refine l1Axis_call (by omega) ?_; conv => whnf)
      | (refine l1Join_call (And.intro (by assumption) (by assumption)) ?_; conv => whnf)
      | (refine sJoin_call ?_; conv => whnf)
      | (refine iJoin_call ?_; conv => whnf)
      | (refine l1Same_call ?_; conv => whnf)
      | (refine l1Index_n (by omega) (by omega) ?_; conv => whnf)
      | (refine sameNums_call ?_; conv => whnf)
      | (refine l1Spread_call (And.intro (by assumption) (by assumption)) ?_; conv => whnf)
      | (refine sSpreadIndex_call (by omega) ?_; conv => whnf)
      | (refine iSpreadIndex_call (by omega) ?_; conv => whnf)
      | (refine sTurnShape_call (by omega) ?_; conv => whnf)
      | (refine iTurnShape_call (by omega) ?_; conv => whnf)
      | (refine sBackTurn_call (by omega) ?_; conv => whnf)
      | (refine iBackTurn_call (by omega) ?_; conv => whnf)
      | (refine sStridesOf_call (by omega) ?_; conv => whnf)
      | (refine iStridesOf_call (by omega) ?_; conv => whnf)
      | (refine And.intro rfl (And.intro rfl (And.intro (by first | omega | (rw [List.length_map]; omega)) ?_)); conv => whnf)
      | (refine set_nat ?_ (by omega); conv => whnf)
      | (refine set_int ?_ (by omega); conv => whnf)
      | (refine set_bool ?_ (by omega); conv => whnf)
      | (refine set_force ?_; conv => whnf)
      | (refine get_bool0 (by omega) ?_; conv => whnf)
      | (refine And.intro (And.intro rfl (And.intro (by kernel_rfl) (And.intro rfl (by kernel_rfl)))) (And.intro (And.intro (by omega) (And.intro (bytes_le (b := 1) rfl (by omega)) (by omega))) ?_); conv => whnf)
      | (refine sTurnOk_call ?_; conv => whnf)
      | (refine held_marks_call rfl (by omega) ?_; conv => whnf)
      | (refine iTurnOk_call ?_; conv => whnf)
      | (refine And.intro (And.intro (by kernel_rfl) (And.intro rfl (Nat.le_of_ble_eq_true rfl))) ?_; conv => whnf)
      | (refine And.intro (And.intro (by kernel_rfl) (by kernel_rfl)) ?_; conv => whnf)
      | (refine And.intro (by kernel_rfl) ?_; conv => whnf)
      | refine aIf_eqt ?_
      | refine aIf_eqf ?_
      | refine aIf_not ?_
      | (refine aIf_bself ?_; conv => whnf)
      | (refine aIf_beself ?_; conv => whnf)
      | (refine aIf_iself ?_; conv => whnf)
      | (refine aIf_decself ?_; conv => whnf)
      | (refine aIf_dec (fun _ => ?_) (fun _ => ?_) <;> conv => whnf)
      | (refine aIf_beq (fun _ => ?_) (fun _ => ?_) <;> conv => whnf)
      | (refine aIf_bne (fun _ => ?_) (fun _ => ?_) <;> conv => whnf)
      | (refine aIf_bbne (fun _ => ?_) (fun _ => ?_) <;> conv => whnf)
      | (refine aIf_bbeq (fun _ => ?_) (fun _ => ?_) <;> conv => whnf)
      | (refine aIf_in (fun _ => ?_) (fun _ => ?_) <;> conv => whnf))
    · rename_i q1 v hq1 hv
      have hv : 1 ≤ v ∧ v ≤ 4 := by
        simp only [List.mem_cons, List.not_mem_nil, or_false] at hv; omega
      refine next_in (n - 1, zs ++ [v], q1) (show n - 1 < n by omega) ⟨by simp; omega, fun z hz => ?_, hq1.1, by simp; omega⟩ ?_
      · simp only [List.mem_append, List.mem_singleton] at hz
        rcases hz with hz | rfl
        · exact h2 z hz
        · exact hv
      · repeat' (first
          | exact trivial
          | exact rfl
          | exact pureL_ints _ _
          | exact pureL_bools _
          | exact Or.inl (And.intro rfl rfl)
          | exact Or.inl (And.intro (pureL_box _ _) rfl)
          | exact le_ints rfl
          | exact le_ints (rep_ints _ _)
          | exact le_bools rfl
          | exact le_bools (rep_bools _)
          | refine le_ints ?_
          | refine And.intro ?_ ?_
          | exact Nat.le_of_ble_eq_true rfl
          | exact Nat.zero_le _
          | exact int_eq (by assumption)
          | exact int_eq (by omega)
          | exact int_eq (Int.add_zero _).symm
          | exact List.length_append
          | exact int_eq (by rw [IntWalk.i64_in _ (by omega)] <;> omega))
    · exact retDL (K := 4) (by omega) rfl rfl ⟨zs, rfl, rfl, shapeOk_t (by omega) fun j hj => (okSize_iff _).2 (h2 _ (getD_mem hj))⟩
theorem l1Draw_call {env : List AV} {rows : List Row} {ctr low τ ver : Nat} {bs : List Int} {p : Int} {k : AV → St → Prop} (hr : rows[τ]? = some (boxR ver bs p)) (hb : bytesOk bs) (hp : 0 ≤ p ∧ p + 4 ≤ 1000000000)
    (hk : ∀ (p' : Int) (zs : List Int), (0 ≤ p' ∧ p' ≤ p + 4) → shapeOk zs = true ∧ zs.length ≤ 3 → k (.ref rows.length ctr 0 zs.length) ⟨env, setRows rows [τ] [[.sl 1 bs.length (bs.map (.int .u8)), .int .i64 p']] ++ [⟨ctr, 3, 1, zs.map (.int .i64)⟩], ctr + 1, low⟩) :
    CallG Try.prog 64 ⟨env, rows, ctr, low⟩ [.ptr τ ver 0] k := by
  refine callD_in l1Draw_sound () trivial hr hb hp rfl rfl ?_
  rintro p' r news h1 h2 ⟨zs, rfl, rfl, h3⟩
  simpa [AV.shift, boxCells] using hk p' zs ⟨h1, h2⟩ ⟨h3, ((shapeOk_iff zs).1 h3).1⟩

set_option maxRecDepth 10000 in
theorem l1Any_sound : Sound Try.prog 48 (fnD (ι := Unit) 55 (fun _ => 5) (fun _ => []) (fun _ => True) (fun _ => newL (fun zs => zs.length ≤ 6))) := by
  refine sound_of Try.func48 rfl (enters_of Try.func48 (by kernel_rfl) (by kernel_rfl)) ?_
  rintro ⟨⟨⟩, bs, p⟩ ⟨-, hb, hp0, hp1⟩
  have hp0 : 0 ≤ p := hp0
  have hp1 : p + 5 ≤ 1000000000 := hp1
  have hb : bytesOk bs := hb
  conv => whnf
  repeat' (first
    | (refine aIf_t ?_; conv => whnf)
    | (refine aIf_f ?_; conv => whnf)
    | (refine fun (_ : _ ≤ maxLen) => ?_; conv => whnf)
    | (refine get_nat (by omega) ?_; conv => whnf)
    | (refine get_int (by omega) ?_; conv => whnf)
    | (refine get_nat0 (by omega) ?_; conv => whnf)
    | (refine get_int0 (by omega) ?_; conv => whnf)
    | (refine aGet_in rfl ?_; conv => whnf)
    | (refine And.intro (And.intro rfl (And.intro (by kernel_rfl) (And.intro rfl (by kernel_rfl)))) (And.intro (And.intro (by omega) (And.intro (bytes_le (b := 8) rfl (by omega)) (by omega))) ?_); conv => whnf)
    | (refine And.intro (by omega) ?_; conv => whnf)
    | (refine And.intro (by rw [List.length_map]; omega) ?_; conv => whnf)
    | (refine And.intro rfl (And.intro (List.cons_ne_nil _ _) ?_); conv => whnf)
    | (refine And.intro (Nat.le_of_ble_eq_true rfl) ?_; conv => whnf)
    | (refine mark_call rfl (by rfl) (by omega) ?_; conv => whnf)
    | (refine pick_call rfl (by assumption) (by omega) (fun _ _ _ _ _ => ?_); conv => whnf)
    | (refine num_call6 rfl rfl (by decide) rfl (by assumption) (by omega) (fun _ _ _ _ => ?_); conv => whnf)
    | (refine l1Draw_call rfl (by assumption) (by omega) (fun _ _ _ _ => ?_); conv => whnf)
    | (refine l1Any_call rfl (by assumption) (by omega) (fun _ _ _ _ => ?_); conv => whnf)
    | (refine l1Under_call rfl rfl (by decide) rfl (by omega) (by assumption) (by omega) (fun _ _ _ _ => ?_); conv => whnf)
    | (refine callG_t ?_; conv => whnf)
    | (refine And.intro (pureL_ints _ _) ?_; conv => whnf)
    | (refine cut_ints ?_; conv => whnf)
    | (refine cut_marks ?_; conv => whnf)
    | (refine cut_all rfl (scalL_ints _ _) ?_; conv => whnf)
    | (refine cut_all (by simp only [List.length_map]; omega) (scalL_ints _ _) ?_; conv => whnf)
    | (refine in_call ?_; conv => whnf)
    | (refine l40Open_call (by assumption) (fun _ _ => ?_); conv => whnf)
    | (refine drawJoin_call (by assumption) (fun _ _ _ => ?_); conv => whnf)
    | (refine drawSpread_call (by assumption) (fun _ _ _ _ => ?_); conv => whnf)
    | (refine teInts_call ?_; conv => whnf)
    | (refine sShapeOk_call ?_; conv => whnf)
    | (refine iShapeOk_call ?_; conv => whnf)
    | (refine toIntS_call (by omega) ?_; conv => whnf)
    | (refine eqIntS_call ?_; conv => whnf)
    | (refine in_callQ ?_; conv => whnf)
    | (refine l1Count_call ?_; conv => whnf)
    | (refine placeOk_call ?_; conv => whnf)
    | (refine l1Index_call (by assumption) ?_; conv => whnf)
    | (refine sIndexAt_call ?_; conv => whnf)
    | (refine iIndexAt_call ?_; conv => whnf)
    | (refine sCountOf_call ?_; conv => whnf)
    | (refine iCountOf_call ?_; conv => whnf)
    | (refine l1Strides_call (by omega) ?_; conv => whnf)
    | (refine append_int rfl rfl (by first | rfl | (simp only [List.length_take, turned_length]; omega)) (by omega) (Nat.le_of_ble_eq_true rfl) ?_; conv => whnf)
    | (refine append_int3 rfl rfl rfl rfl (by omega) (Nat.le_of_ble_eq_true rfl) ?_; conv => whnf)
    | (refine l1Turn_call (by assumption) ?_; conv => whnf)
    | (refine l1Place_call (by assumption) ?_; conv => whnf)
    | (refine sPlaceAt_call (by omega) ?_; conv => whnf)
    | (refine iPlaceAt_call (by omega) ?_; conv => whnf)
    | (refine sizeBefore_call (by omega) ?_; conv => whnf)
    | (refine l1Axis_call (by omega) ?_; conv => whnf)
    | (refine l1Join_call (And.intro (by assumption) (by assumption)) ?_; conv => whnf)
    | (refine sJoin_call ?_; conv => whnf)
    | (refine iJoin_call ?_; conv => whnf)
    | (refine l1Same_call ?_; conv => whnf)
    | (refine l1Index_n (by omega) (by omega) ?_; conv => whnf)
    | (refine sameNums_call ?_; conv => whnf)
    | (refine l1Spread_call (And.intro (by assumption) (by assumption)) ?_; conv => whnf)
    | (refine sSpreadIndex_call (by omega) ?_; conv => whnf)
    | (refine iSpreadIndex_call (by omega) ?_; conv => whnf)
    | (refine sTurnShape_call (by omega) ?_; conv => whnf)
    | (refine iTurnShape_call (by omega) ?_; conv => whnf)
    | (refine sBackTurn_call (by omega) ?_; conv => whnf)
    | (refine iBackTurn_call (by omega) ?_; conv => whnf)
    | (refine sStridesOf_call (by omega) ?_; conv => whnf)
    | (refine iStridesOf_call (by omega) ?_; conv => whnf)
    | (refine And.intro rfl (And.intro rfl (And.intro (by first | omega | (rw [List.length_map]; omega)) ?_)); conv => whnf)
    | (refine set_nat ?_ (by omega); conv => whnf)
    | (refine set_int ?_ (by omega); conv => whnf)
    | (refine set_bool ?_ (by omega); conv => whnf)
    | (refine set_force ?_; conv => whnf)
    | (refine get_bool0 (by omega) ?_; conv => whnf)
    | (refine And.intro (And.intro rfl (And.intro (by kernel_rfl) (And.intro rfl (by kernel_rfl)))) (And.intro (And.intro (by omega) (And.intro (bytes_le (b := 1) rfl (by omega)) (by omega))) ?_); conv => whnf)
    | (refine sTurnOk_call ?_; conv => whnf)
    | (refine held_marks_call rfl (by omega) ?_; conv => whnf)
    | (refine iTurnOk_call ?_; conv => whnf)
    | (refine And.intro (And.intro (by kernel_rfl) (And.intro rfl (Nat.le_of_ble_eq_true rfl))) ?_; conv => whnf)
    | (refine And.intro (And.intro (by kernel_rfl) (by kernel_rfl)) ?_; conv => whnf)
    | (refine And.intro (by kernel_rfl) ?_; conv => whnf)
    | refine aIf_eqt ?_
    | refine aIf_eqf ?_
    | refine aIf_not ?_
    | (refine aIf_bself ?_; conv => whnf)
    | (refine aIf_beself ?_; conv => whnf)
    | (refine aIf_iself ?_; conv => whnf)
    | (refine aIf_decself ?_; conv => whnf)
    | (refine aIf_dec (fun _ => ?_) (fun _ => ?_) <;> conv => whnf)
    | (refine aIf_beq (fun _ => ?_) (fun _ => ?_) <;> conv => whnf)
    | (refine aIf_bne (fun _ => ?_) (fun _ => ?_) <;> conv => whnf)
    | (refine aIf_bbne (fun _ => ?_) (fun _ => ?_) <;> conv => whnf)
    | (refine aIf_bbeq (fun _ => ?_) (fun _ => ?_) <;> conv => whnf)
    | (refine aIf_in (fun _ => ?_) (fun _ => ?_) <;> conv => whnf))
  · exact retDL (zs := _ ++ [0]) (K := 5) (by omega) rfl (by simp) ⟨_, rfl, rfl, by simp; omega⟩
  · exact retDL (zs := _ ++ [5]) (K := 5) (by omega) rfl (by simp) ⟨_, rfl, rfl, by simp; omega⟩
  · exact retDL (zs := _ ++ [1, 1, 1]) (K := 5) (by omega) rfl (by simp) ⟨_, rfl, rfl, by simp; omega⟩
  · exact retDL (K := 5) (by omega) rfl rfl ⟨_, rfl, rfl, by omega⟩
theorem l1Any_call {env : List AV} {rows : List Row} {ctr low τ ver : Nat} {bs : List Int} {p : Int} {k : AV → St → Prop} (hr : rows[τ]? = some (boxR ver bs p)) (hb : bytesOk bs) (hp : 0 ≤ p ∧ p + 5 ≤ 1000000000)
    (hk : ∀ (p' : Int) (zs : List Int), (0 ≤ p' ∧ p' ≤ p + 5) → zs.length ≤ 6 → k (.ref rows.length ctr 0 zs.length) ⟨env, setRows rows [τ] [[.sl 1 bs.length (bs.map (.int .u8)), .int .i64 p']] ++ [⟨ctr, 3, 1, zs.map (.int .i64)⟩], ctr + 1, low⟩) :
    CallG Try.prog 48 ⟨env, rows, ctr, low⟩ [.ptr τ ver 0] k := by
  refine callD_in l1Any_sound () trivial hr hb hp rfl rfl ?_
  rintro p' r news h1 h2 ⟨zs, rfl, rfl, h3⟩
  simpa [AV.shift, boxCells] using hk p' zs ⟨h1, h2⟩ h3

set_option maxRecDepth 10000 in
theorem l1Under_sound : Sound Try.prog 55 (fnD (ι := Nat × List Int) 55 (fun | (_, xs) => xs.length + 1) (fun | (c, xs) => [.sl c xs.length (xs.map (.int .i64))]) (fun | (_, xs) => xs.length ≤ 6) (fun | (_, xs) => newL (fun zs => zs.length ≤ 6 ∧ (shapeOk xs = true → shapeOk zs = true)))) := by
  refine sound_of Try.func55 rfl (enters_of Try.func55 (by kernel_rfl) (by kernel_rfl)) ?_
  rintro ⟨⟨c, xs⟩, bs, p⟩ ⟨hx, hb, hp0, hp1⟩
  have hp0 : 0 ≤ p := hp0
  have hp1 : p + (xs.length + 1) ≤ 1000000000 := hp1
  have hb : bytesOk bs := hb
  have hx : xs.length ≤ 6 := hx
  have hw : IntKind.i64.wrap ((xs.length : Int) + 1) = xs.length + 1 := IntWalk.i64_in _ (by omega)
  conv => whnf
  repeat' (first
    | (refine aIf_t ?_; conv => whnf)
    | (refine aIf_f ?_; conv => whnf)
    | (refine fun (_ : _ ≤ maxLen) => ?_; conv => whnf)
    | (refine get_nat (by omega) ?_; conv => whnf)
    | (refine get_int (by omega) ?_; conv => whnf)
    | (refine get_nat0 (by omega) ?_; conv => whnf)
    | (refine get_int0 (by omega) ?_; conv => whnf)
    | (refine aGet_in rfl ?_; conv => whnf)
    | (refine And.intro (And.intro rfl (And.intro (by kernel_rfl) (And.intro rfl (by kernel_rfl)))) (And.intro (And.intro (by omega) (And.intro (bytes_le (b := 8) rfl (by omega)) (by omega))) ?_); conv => whnf)
    | (refine And.intro (by omega) ?_; conv => whnf)
    | (refine And.intro (by rw [List.length_map]; omega) ?_; conv => whnf)
    | (refine And.intro rfl (And.intro (List.cons_ne_nil _ _) ?_); conv => whnf)
    | (refine And.intro (Nat.le_of_ble_eq_true rfl) ?_; conv => whnf)
    | (refine mark_call rfl (by rfl) (by omega) ?_; conv => whnf)
    | (refine pick_call rfl (by assumption) (by omega) (fun _ _ _ _ _ => ?_); conv => whnf)
    | (refine num_call6 rfl rfl (by decide) rfl (by assumption) (by omega) (fun _ _ _ _ => ?_); conv => whnf)
    | (refine l1Draw_call rfl (by assumption) (by omega) (fun _ _ _ _ => ?_); conv => whnf)
    | (refine l1Any_call rfl (by assumption) (by omega) (fun _ _ _ _ => ?_); conv => whnf)
    | (refine l1Under_call rfl rfl (by decide) rfl (by omega) (by assumption) (by omega) (fun _ _ _ _ => ?_); conv => whnf)
    | (refine callG_t ?_; conv => whnf)
    | (refine And.intro (pureL_ints _ _) ?_; conv => whnf)
    | (refine cut_ints ?_; conv => whnf)
    | (refine cut_marks ?_; conv => whnf)
    | (refine cut_all rfl (scalL_ints _ _) ?_; conv => whnf)
    | (refine cut_all (by simp only [List.length_map]; omega) (scalL_ints _ _) ?_; conv => whnf)
    | (refine in_call ?_; conv => whnf)
    | (refine l40Open_call (by assumption) (fun _ _ => ?_); conv => whnf)
    | (refine drawJoin_call (by assumption) (fun _ _ _ => ?_); conv => whnf)
    | (refine drawSpread_call (by assumption) (fun _ _ _ _ => ?_); conv => whnf)
    | (refine teInts_call ?_; conv => whnf)
    | (refine sShapeOk_call ?_; conv => whnf)
    | (refine iShapeOk_call ?_; conv => whnf)
    | (refine toIntS_call (by omega) ?_; conv => whnf)
    | (refine eqIntS_call ?_; conv => whnf)
    | (refine in_callQ ?_; conv => whnf)
    | (refine l1Count_call ?_; conv => whnf)
    | (refine placeOk_call ?_; conv => whnf)
    | (refine l1Index_call (by assumption) ?_; conv => whnf)
    | (refine sIndexAt_call ?_; conv => whnf)
    | (refine iIndexAt_call ?_; conv => whnf)
    | (refine sCountOf_call ?_; conv => whnf)
    | (refine iCountOf_call ?_; conv => whnf)
    | (refine l1Strides_call (by omega) ?_; conv => whnf)
    | (refine append_int rfl rfl (by first | rfl | (simp only [List.length_take, turned_length]; omega)) (by omega) (Nat.le_of_ble_eq_true rfl) ?_; conv => whnf)
    | (refine append_int3 rfl rfl rfl rfl (by omega) (Nat.le_of_ble_eq_true rfl) ?_; conv => whnf)
    | (refine l1Turn_call (by assumption) ?_; conv => whnf)
    | (refine l1Place_call (by assumption) ?_; conv => whnf)
    | (refine sPlaceAt_call (by omega) ?_; conv => whnf)
    | (refine iPlaceAt_call (by omega) ?_; conv => whnf)
    | (refine sizeBefore_call (by omega) ?_; conv => whnf)
    | (refine l1Axis_call (by omega) ?_; conv => whnf)
    | (refine l1Join_call (And.intro (by assumption) (by assumption)) ?_; conv => whnf)
    | (refine sJoin_call ?_; conv => whnf)
    | (refine iJoin_call ?_; conv => whnf)
    | (refine l1Same_call ?_; conv => whnf)
    | (refine l1Index_n (by omega) (by omega) ?_; conv => whnf)
    | (refine sameNums_call ?_; conv => whnf)
    | (refine l1Spread_call (And.intro (by assumption) (by assumption)) ?_; conv => whnf)
    | (refine sSpreadIndex_call (by omega) ?_; conv => whnf)
    | (refine iSpreadIndex_call (by omega) ?_; conv => whnf)
    | (refine sTurnShape_call (by omega) ?_; conv => whnf)
    | (refine iTurnShape_call (by omega) ?_; conv => whnf)
    | (refine sBackTurn_call (by omega) ?_; conv => whnf)
    | (refine iBackTurn_call (by omega) ?_; conv => whnf)
    | (refine sStridesOf_call (by omega) ?_; conv => whnf)
    | (refine iStridesOf_call (by omega) ?_; conv => whnf)
    | (refine And.intro rfl (And.intro rfl (And.intro (by first | omega | (rw [List.length_map]; omega)) ?_)); conv => whnf)
    | (refine set_nat ?_ (by omega); conv => whnf)
    | (refine set_int ?_ (by omega); conv => whnf)
    | (refine set_bool ?_ (by omega); conv => whnf)
    | (refine set_force ?_; conv => whnf)
    | (refine get_bool0 (by omega) ?_; conv => whnf)
    | (refine And.intro (And.intro rfl (And.intro (by kernel_rfl) (And.intro rfl (by kernel_rfl)))) (And.intro (And.intro (by omega) (And.intro (bytes_le (b := 1) rfl (by omega)) (by omega))) ?_); conv => whnf)
    | (refine sTurnOk_call ?_; conv => whnf)
    | (refine held_marks_call rfl (by omega) ?_; conv => whnf)
    | (refine iTurnOk_call ?_; conv => whnf)
    | (refine And.intro (And.intro (by kernel_rfl) (And.intro rfl (Nat.le_of_ble_eq_true rfl))) ?_; conv => whnf)
    | (refine And.intro (And.intro (by kernel_rfl) (by kernel_rfl)) ?_; conv => whnf)
    | (refine And.intro (by kernel_rfl) ?_; conv => whnf)
    | refine aIf_eqt ?_
    | refine aIf_eqf ?_
    | refine aIf_not ?_
    | (refine aIf_bself ?_; conv => whnf)
    | (refine aIf_beself ?_; conv => whnf)
    | (refine aIf_iself ?_; conv => whnf)
    | (refine aIf_decself ?_; conv => whnf)
    | (refine aIf_dec (fun _ => ?_) (fun _ => ?_) <;> conv => whnf)
    | (refine aIf_beq (fun _ => ?_) (fun _ => ?_) <;> conv => whnf)
    | (refine aIf_bne (fun _ => ?_) (fun _ => ?_) <;> conv => whnf)
    | (refine aIf_bbne (fun _ => ?_) (fun _ => ?_) <;> conv => whnf)
    | (refine aIf_bbeq (fun _ => ?_) (fun _ => ?_) <;> conv => whnf)
    | (refine aIf_in (fun _ => ?_) (fun _ => ?_) <;> conv => whnf))
  rename_i p1 z hp' hz _
  rw [hw] at hz
  have hz := hz (by omega)
  refine loop_in (ι := Nat × List Int × Int) (fun | (k, zs, q) => ⟨[.ptr 0 0 0, .sl c xs.length (xs.map (.int .i64)), .un, .un, .un, .ref 2 3 0 zs.length, .int .i64 k, .un, .un, .un, .un, .un, .un, .un, .un, .un, .un, .un, .un, .un, .un, .un, .un, .un, .un, .un, .un, .un, .un, .un, .un, .un, .un], [boxR 0 bs q, ⟨1, 3, 1, []⟩, ⟨3, 3, 1, zs.map (.int .i64)⟩], 4, 1⟩)
    (fun x => x.1 ≤ xs.length ∧ x.2.1.length ≤ x.1 ∧ (∀ z ∈ x.2.1, z = 1 ∨ z ∈ xs) ∧ 0 ≤ x.2.2 ∧ x.2.2 ≤ p + 1 + x.1) (fun x => xs.length - x.1) (z.toNat, [], p1) ⟨(show z.toNat ≤ xs.length by omega), Nat.zero_le _, by simp, hp'.1, (show p1 ≤ p + 1 + (z.toNat : Int) by omega)⟩ ?_ ?_
  · repeat' (first
      | exact trivial
      | exact rfl
      | exact pureL_ints _ _
      | exact pureL_bools _
      | exact Or.inl (And.intro rfl rfl)
      | exact Or.inl (And.intro (pureL_box _ _) rfl)
      | exact le_ints rfl
      | exact le_ints (rep_ints _ _)
      | exact le_bools rfl
      | exact le_bools (rep_bools _)
      | refine le_ints ?_
      | refine And.intro ?_ ?_
      | exact Nat.le_of_ble_eq_true rfl
      | exact Nat.zero_le _
      | exact int_eq (by assumption)
      | exact int_eq (by omega)
      | exact int_eq (Int.add_zero _).symm
      | exact List.length_append
      | exact int_eq (by rw [IntWalk.i64_in _ (by omega)] <;> omega))
  · rintro ⟨k, zs, q⟩ ⟨h1, h2, h3, h4, h5⟩
    have h1 : k ≤ xs.length := h1
    have h2 : zs.length ≤ k := h2
    have h3 : ∀ z ∈ zs, z = 1 ∨ z ∈ xs := h3
    have h4 : 0 ≤ q := h4
    have h5 : q ≤ p + 1 + k := h5
    by_cases hk : k < xs.length
    · conv => whnf
      repeat' (first
        | (refine aIf_t ?_; conv => whnf)
        | (refine aIf_f ?_; conv => whnf)
        | (refine fun (_ : _ ≤ maxLen) => ?_; conv => whnf)
        | (refine get_nat (by omega) ?_; conv => whnf)
        | (refine get_int (by omega) ?_; conv => whnf)
        | (refine get_nat0 (by omega) ?_; conv => whnf)
        | (refine get_int0 (by omega) ?_; conv => whnf)
        | (refine aGet_in rfl ?_; conv => whnf)
        | (refine And.intro (And.intro rfl (And.intro (by kernel_rfl) (And.intro rfl (by kernel_rfl)))) (And.intro (And.intro (by omega) (And.intro (bytes_le (b := 8) rfl (by omega)) (by omega))) ?_); conv => whnf)
        | (refine And.intro (by omega) ?_; conv => whnf)
        | (refine And.intro (by rw [List.length_map]; omega) ?_; conv => whnf)
        | (refine And.intro rfl (And.intro (List.cons_ne_nil _ _) ?_); conv => whnf)
        | (refine And.intro (Nat.le_of_ble_eq_true rfl) ?_; conv => whnf)
        | (refine mark_call rfl (by rfl) (by omega) ?_; conv => whnf)
        | (refine pick_call rfl (by assumption) (by omega) (fun _ _ _ _ _ => ?_); conv => whnf)
        | (refine num_call6 rfl rfl (by decide) rfl (by assumption) (by omega) (fun _ _ _ _ => ?_); conv => whnf)
        | (refine l1Draw_call rfl (by assumption) (by omega) (fun _ _ _ _ => ?_); conv => whnf)
        | (refine l1Any_call rfl (by assumption) (by omega) (fun _ _ _ _ => ?_); conv => whnf)
        | (refine l1Under_call rfl rfl (by decide) rfl (by omega) (by assumption) (by omega) (fun _ _ _ _ => ?_); conv => whnf)
        | (refine callG_t ?_; conv => whnf)
        | (refine And.intro (pureL_ints _ _) ?_; conv => whnf)
        | (refine cut_ints ?_; conv => whnf)
        | (refine cut_marks ?_; conv => whnf)
        | (refine cut_all rfl (scalL_ints _ _) ?_; conv => whnf)
        | (refine cut_all (by simp only [List.length_map]; omega) (scalL_ints _ _) ?_; conv => whnf)
        | (refine in_call ?_; conv => whnf)
        | (refine l40Open_call (by assumption) (fun _ _ => ?_); conv => whnf)
        | (refine drawJoin_call (by assumption) (fun _ _ _ => ?_); conv => whnf)
        | (refine drawSpread_call (by assumption) (fun _ _ _ _ => ?_); conv => whnf)
        | (refine teInts_call ?_; conv => whnf)
        | (refine sShapeOk_call ?_; conv => whnf)
        | (refine iShapeOk_call ?_; conv => whnf)
        | (refine toIntS_call (by omega) ?_; conv => whnf)
        | (refine eqIntS_call ?_; conv => whnf)
        | (refine in_callQ ?_; conv => whnf)
        | (refine l1Count_call ?_; conv => whnf)
        | (refine placeOk_call ?_; conv => whnf)
        | (refine l1Index_call (by assumption) ?_; conv => whnf)
        | (refine sIndexAt_call ?_; conv => whnf)
        | (refine iIndexAt_call ?_; conv => whnf)
        | (refine sCountOf_call ?_; conv => whnf)
        | (refine iCountOf_call ?_; conv => whnf)
        | (refine l1Strides_call (by omega) ?_; conv => whnf)
        | (refine append_int rfl rfl (by first | rfl | (simp only [List.length_take, turned_length]; omega)) (by omega) (Nat.le_of_ble_eq_true rfl) ?_; conv => whnf)
        | (refine append_int3 rfl rfl rfl rfl (by omega) (Nat.le_of_ble_eq_true rfl) ?_; conv => whnf)
        | (refine l1Turn_call (by assumption) ?_; conv => whnf)
        | (refine l1Place_call (by assumption) ?_; conv => whnf)
        | (refine sPlaceAt_call (by omega) ?_; conv => whnf)
        | (refine iPlaceAt_call (by omega) ?_; conv => whnf)
        | (refine sizeBefore_call (by omega) ?_; conv => whnf)
        | (refine l1Axis_call (by omega) ?_; conv => whnf)
        | (refine l1Join_call (And.intro (by assumption) (by assumption)) ?_; conv => whnf)
        | (refine sJoin_call ?_; conv => whnf)
        | (refine iJoin_call ?_; conv => whnf)
        | (refine l1Same_call ?_; conv => whnf)
        | (refine l1Index_n (by omega) (by omega) ?_; conv => whnf)
        | (refine sameNums_call ?_; conv => whnf)
        | (refine l1Spread_call (And.intro (by assumption) (by assumption)) ?_; conv => whnf)
        | (refine sSpreadIndex_call (by omega) ?_; conv => whnf)
        | (refine iSpreadIndex_call (by omega) ?_; conv => whnf)
        | (refine sTurnShape_call (by omega) ?_; conv => whnf)
        | (refine iTurnShape_call (by omega) ?_; conv => whnf)
        | (refine sBackTurn_call (by omega) ?_; conv => whnf)
        | (refine iBackTurn_call (by omega) ?_; conv => whnf)
        | (refine sStridesOf_call (by omega) ?_; conv => whnf)
        | (refine iStridesOf_call (by omega) ?_; conv => whnf)
        | (refine And.intro rfl (And.intro rfl (And.intro (by first | omega | (rw [List.length_map]; omega)) ?_)); conv => whnf)
        | (refine set_nat ?_ (by omega); conv => whnf)
        | (refine set_int ?_ (by omega); conv => whnf)
        | (refine set_bool ?_ (by omega); conv => whnf)
        | (refine set_force ?_; conv => whnf)
        | (refine get_bool0 (by omega) ?_; conv => whnf)
        | (refine And.intro (And.intro rfl (And.intro (by kernel_rfl) (And.intro rfl (by kernel_rfl)))) (And.intro (And.intro (by omega) (And.intro (bytes_le (b := 1) rfl (by omega)) (by omega))) ?_); conv => whnf)
        | (refine sTurnOk_call ?_; conv => whnf)
        | (refine held_marks_call rfl (by omega) ?_; conv => whnf)
        | (refine iTurnOk_call ?_; conv => whnf)
        | (refine And.intro (And.intro (by kernel_rfl) (And.intro rfl (Nat.le_of_ble_eq_true rfl))) ?_; conv => whnf)
        | (refine And.intro (And.intro (by kernel_rfl) (by kernel_rfl)) ?_; conv => whnf)
        | (refine And.intro (by kernel_rfl) ?_; conv => whnf)
        | refine aIf_eqt ?_
        | refine aIf_eqf ?_
        | refine aIf_not ?_
        | (refine aIf_bself ?_; conv => whnf)
        | (refine aIf_beself ?_; conv => whnf)
        | (refine aIf_iself ?_; conv => whnf)
        | (refine aIf_decself ?_; conv => whnf)
        | (refine aIf_dec (fun _ => ?_) (fun _ => ?_) <;> conv => whnf)
        | (refine aIf_beq (fun _ => ?_) (fun _ => ?_) <;> conv => whnf)
        | (refine aIf_bne (fun _ => ?_) (fun _ => ?_) <;> conv => whnf)
        | (refine aIf_bbne (fun _ => ?_) (fun _ => ?_) <;> conv => whnf)
        | (refine aIf_bbeq (fun _ => ?_) (fun _ => ?_) <;> conv => whnf)
        | (refine aIf_in (fun _ => ?_) (fun _ => ?_) <;> conv => whnf))
      all_goals (first | (exfalso; omega) | skip)
      · rename_i q1 v hq1 hv _ _
        refine next_in (k + 1, zs ++ [1], q1) (show xs.length - (k + 1) < xs.length - k by omega) ⟨(show k + 1 ≤ xs.length by omega), (show (zs ++ [1]).length ≤ k + 1 by simp; omega), fun z hz => ?_, hq1.1, (show q1 ≤ p + 1 + ((k + 1 : Nat) : Int) by omega)⟩ ?_
        · simp only [List.mem_append, List.mem_singleton] at hz
          rcases hz with hz | rfl
          · exact h3 z hz
          · exact .inl rfl
        · repeat' (first
            | exact trivial
            | exact rfl
            | exact pureL_ints _ _
            | exact pureL_bools _
            | exact Or.inl (And.intro rfl rfl)
            | exact Or.inl (And.intro (pureL_box _ _) rfl)
            | exact le_ints rfl
            | exact le_ints (rep_ints _ _)
            | exact le_bools rfl
            | exact le_bools (rep_bools _)
            | refine le_ints ?_
            | refine And.intro ?_ ?_
            | exact Nat.le_of_ble_eq_true rfl
            | exact Nat.zero_le _
            | exact int_eq (by assumption)
            | exact int_eq (by omega)
            | exact int_eq (Int.add_zero _).symm
            | exact List.length_append
            | exact int_eq (by rw [IntWalk.i64_in _ (by omega)] <;> omega))
      · rename_i q1 v hq1 hv _ _
        refine next_in (k + 1, zs ++ [xs.getD k 0], q1) (show xs.length - (k + 1) < xs.length - k by omega) ⟨(show k + 1 ≤ xs.length by omega), (show (zs ++ [xs.getD k 0]).length ≤ k + 1 by simp; omega), fun z hz => ?_, hq1.1, (show q1 ≤ p + 1 + ((k + 1 : Nat) : Int) by omega)⟩ ?_
        · simp only [List.mem_append, List.mem_singleton] at hz
          rcases hz with hz | rfl
          · exact h3 z hz
          · exact .inr (getD_mem hk)
        · repeat' (first
            | exact trivial
            | exact rfl
            | exact pureL_ints _ _
            | exact pureL_bools _
            | exact Or.inl (And.intro rfl rfl)
            | exact Or.inl (And.intro (pureL_box _ _) rfl)
            | exact le_ints rfl
            | exact le_ints (rep_ints _ _)
            | exact le_bools rfl
            | exact le_bools (rep_bools _)
            | refine le_ints ?_
            | refine And.intro ?_ ?_
            | exact Nat.le_of_ble_eq_true rfl
            | exact Nat.zero_le _
            | exact int_eq (by assumption)
            | exact int_eq (by omega)
            | exact int_eq (Int.add_zero _).symm
            | exact List.length_append
            | exact int_eq (by rw [IntWalk.i64_in _ (by omega)] <;> omega))
    · conv => whnf
      repeat' (first
        | (refine aIf_t ?_; conv => whnf)
        | (refine aIf_f ?_; conv => whnf)
        | (refine fun (_ : _ ≤ maxLen) => ?_; conv => whnf)
        | (refine get_nat (by omega) ?_; conv => whnf)
        | (refine get_int (by omega) ?_; conv => whnf)
        | (refine get_nat0 (by omega) ?_; conv => whnf)
        | (refine get_int0 (by omega) ?_; conv => whnf)
        | (refine aGet_in rfl ?_; conv => whnf)
        | (refine And.intro (And.intro rfl (And.intro (by kernel_rfl) (And.intro rfl (by kernel_rfl)))) (And.intro (And.intro (by omega) (And.intro (bytes_le (b := 8) rfl (by omega)) (by omega))) ?_); conv => whnf)
        | (refine And.intro (by omega) ?_; conv => whnf)
        | (refine And.intro (by rw [List.length_map]; omega) ?_; conv => whnf)
        | (refine And.intro rfl (And.intro (List.cons_ne_nil _ _) ?_); conv => whnf)
        | (refine And.intro (Nat.le_of_ble_eq_true rfl) ?_; conv => whnf)
        | (refine mark_call rfl (by rfl) (by omega) ?_; conv => whnf)
        | (refine pick_call rfl (by assumption) (by omega) (fun _ _ _ _ _ => ?_); conv => whnf)
        | (refine num_call6 rfl rfl (by decide) rfl (by assumption) (by omega) (fun _ _ _ _ => ?_); conv => whnf)
        | (refine l1Draw_call rfl (by assumption) (by omega) (fun _ _ _ _ => ?_); conv => whnf)
        | (refine l1Any_call rfl (by assumption) (by omega) (fun _ _ _ _ => ?_); conv => whnf)
        | (refine l1Under_call rfl rfl (by decide) rfl (by omega) (by assumption) (by omega) (fun _ _ _ _ => ?_); conv => whnf)
        | (refine callG_t ?_; conv => whnf)
        | (refine And.intro (pureL_ints _ _) ?_; conv => whnf)
        | (refine cut_ints ?_; conv => whnf)
        | (refine cut_marks ?_; conv => whnf)
        | (refine cut_all rfl (scalL_ints _ _) ?_; conv => whnf)
        | (refine cut_all (by simp only [List.length_map]; omega) (scalL_ints _ _) ?_; conv => whnf)
        | (refine in_call ?_; conv => whnf)
        | (refine l40Open_call (by assumption) (fun _ _ => ?_); conv => whnf)
        | (refine drawJoin_call (by assumption) (fun _ _ _ => ?_); conv => whnf)
        | (refine drawSpread_call (by assumption) (fun _ _ _ _ => ?_); conv => whnf)
        | (refine teInts_call ?_; conv => whnf)
        | (refine sShapeOk_call ?_; conv => whnf)
        | (refine iShapeOk_call ?_; conv => whnf)
        | (refine toIntS_call (by omega) ?_; conv => whnf)
        | (refine eqIntS_call ?_; conv => whnf)
        | (refine in_callQ ?_; conv => whnf)
        | (refine l1Count_call ?_; conv => whnf)
        | (refine placeOk_call ?_; conv => whnf)
        | (refine l1Index_call (by assumption) ?_; conv => whnf)
        | (refine sIndexAt_call ?_; conv => whnf)
        | (refine iIndexAt_call ?_; conv => whnf)
        | (refine sCountOf_call ?_; conv => whnf)
        | (refine iCountOf_call ?_; conv => whnf)
        | (refine l1Strides_call (by omega) ?_; conv => whnf)
        | (refine append_int rfl rfl (by first | rfl | (simp only [List.length_take, turned_length]; omega)) (by omega) (Nat.le_of_ble_eq_true rfl) ?_; conv => whnf)
        | (refine append_int3 rfl rfl rfl rfl (by omega) (Nat.le_of_ble_eq_true rfl) ?_; conv => whnf)
        | (refine l1Turn_call (by assumption) ?_; conv => whnf)
        | (refine l1Place_call (by assumption) ?_; conv => whnf)
        | (refine sPlaceAt_call (by omega) ?_; conv => whnf)
        | (refine iPlaceAt_call (by omega) ?_; conv => whnf)
        | (refine sizeBefore_call (by omega) ?_; conv => whnf)
        | (refine l1Axis_call (by omega) ?_; conv => whnf)
        | (refine l1Join_call (And.intro (by assumption) (by assumption)) ?_; conv => whnf)
        | (refine sJoin_call ?_; conv => whnf)
        | (refine iJoin_call ?_; conv => whnf)
        | (refine l1Same_call ?_; conv => whnf)
        | (refine l1Index_n (by omega) (by omega) ?_; conv => whnf)
        | (refine sameNums_call ?_; conv => whnf)
        | (refine l1Spread_call (And.intro (by assumption) (by assumption)) ?_; conv => whnf)
        | (refine sSpreadIndex_call (by omega) ?_; conv => whnf)
        | (refine iSpreadIndex_call (by omega) ?_; conv => whnf)
        | (refine sTurnShape_call (by omega) ?_; conv => whnf)
        | (refine iTurnShape_call (by omega) ?_; conv => whnf)
        | (refine sBackTurn_call (by omega) ?_; conv => whnf)
        | (refine iBackTurn_call (by omega) ?_; conv => whnf)
        | (refine sStridesOf_call (by omega) ?_; conv => whnf)
        | (refine iStridesOf_call (by omega) ?_; conv => whnf)
        | (refine And.intro rfl (And.intro rfl (And.intro (by first | omega | (rw [List.length_map]; omega)) ?_)); conv => whnf)
        | (refine set_nat ?_ (by omega); conv => whnf)
        | (refine set_int ?_ (by omega); conv => whnf)
        | (refine set_bool ?_ (by omega); conv => whnf)
        | (refine set_force ?_; conv => whnf)
        | (refine get_bool0 (by omega) ?_; conv => whnf)
        | (refine And.intro (And.intro rfl (And.intro (by kernel_rfl) (And.intro rfl (by kernel_rfl)))) (And.intro (And.intro (by omega) (And.intro (bytes_le (b := 1) rfl (by omega)) (by omega))) ?_); conv => whnf)
        | (refine sTurnOk_call ?_; conv => whnf)
        | (refine held_marks_call rfl (by omega) ?_; conv => whnf)
        | (refine iTurnOk_call ?_; conv => whnf)
        | (refine And.intro (And.intro (by kernel_rfl) (And.intro rfl (Nat.le_of_ble_eq_true rfl))) ?_; conv => whnf)
        | (refine And.intro (And.intro (by kernel_rfl) (by kernel_rfl)) ?_; conv => whnf)
        | (refine And.intro (by kernel_rfl) ?_; conv => whnf)
        | refine aIf_eqt ?_
        | refine aIf_eqf ?_
        | refine aIf_not ?_
        | (refine aIf_bself ?_; conv => whnf)
        | (refine aIf_beself ?_; conv => whnf)
        | (refine aIf_iself ?_; conv => whnf)
        | (refine aIf_decself ?_; conv => whnf)
        | (refine aIf_dec (fun _ => ?_) (fun _ => ?_) <;> conv => whnf)
        | (refine aIf_beq (fun _ => ?_) (fun _ => ?_) <;> conv => whnf)
        | (refine aIf_bne (fun _ => ?_) (fun _ => ?_) <;> conv => whnf)
        | (refine aIf_bbne (fun _ => ?_) (fun _ => ?_) <;> conv => whnf)
        | (refine aIf_bbeq (fun _ => ?_) (fun _ => ?_) <;> conv => whnf)
        | (refine aIf_in (fun _ => ?_) (fun _ => ?_) <;> conv => whnf))
      all_goals (first | (exfalso; omega) | skip)
      refine retDL (K := xs.length + 1) ⟨h4, by omega⟩ rfl rfl ⟨zs, rfl, rfl, by omega, fun hs => ?_⟩
      have hs' := (shapeOk_iff xs).1 hs
      have h8 : zs.length ≤ 3 := by omega
      refine shapeOk_t h8 fun j hj => (okSize_iff _).2 ?_
      rcases h3 _ (getD_mem hj) with e | e
      · omega
      · obtain ⟨i, hi, hi'⟩ := List.mem_iff_getElem.1 e
        have := (okSize_iff _).1 (hs'.2 i hi)
        have e2 : xs.getD i 0 = xs[i] := by simp [List.getD, List.getElem?_eq_getElem hi]
        omega
theorem l1Under_call {env : List AV} {rows : List Row} {ctr low τ ver τ' ver' n : Nat} {bs xs : List Int} {p : Int} {k : AV → St → Prop} (hr : rows[τ]? = some (boxR ver bs p)) (hr' : rows[τ']? = some ⟨ver', 3, 1, xs.map (.int .i64)⟩) (hne : τ' ≠ τ) (hn : n = xs.length) (hx : xs.length ≤ 6) (hb : bytesOk bs) (hp : 0 ≤ p ∧ p + 7 ≤ 1000000000)
    (hk : ∀ (p' : Int) (zs : List Int), (0 ≤ p' ∧ p' ≤ p + 7) → zs.length ≤ 6 ∧ (shapeOk xs = true → shapeOk zs = true) → k (.ref rows.length ctr 0 zs.length) ⟨env, setRows rows [τ] [[.sl 1 bs.length (bs.map (.int .u8)), .int .i64 p']] ++ [⟨ctr, 3, 1, zs.map (.int .i64)⟩], ctr + 1, low⟩) :
    CallG Try.prog 55 ⟨env, rows, ctr, low⟩ [.ptr τ ver 0, .ref τ' ver' 0 n] k := by
  refine callD_in l1Under_sound (0, xs) hx hr hb (show 0 ≤ p ∧ p + ((xs.length : Int) + 1) ≤ 1000000000 by omega) rfl ?_ ?_
  · show (callArg _ [τ] false (.ref τ' ver' 0 n)).bind _ = _
    rw [arg_ints hr' hn hne]
    rfl
  · rintro p' r news h1 h2 ⟨zs, rfl, rfl, h3⟩
    have h2 : p' ≤ p + ((xs.length : Int) + 1) := h2
    simpa [AV.shift, boxCells] using hk p' zs ⟨h1, by omega⟩ h3

end Go.Proofs.Ytmhpandbmoalaaa
