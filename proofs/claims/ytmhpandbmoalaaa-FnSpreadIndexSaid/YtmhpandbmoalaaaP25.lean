/- Draws: the box, numbers out of it. -/
import Derived.Test.YtmhpandbmoalaaaAmQ
import Derived.Test.YtmhpandbmoalaaaRows
namespace Go.Proofs.Ytmhpandbmoalaaa
open Go.RowKit Go.Am
attribute [local irreducible] aGet aIf aLoop aCall aCallQ RetB NextB CallB CallG aCut aSet aAppend

/-- A box as a row. -/
abbrev boxR (ver : Nat) (bs : List Int) (p : Int) : Row := ⟨ver, 55, 2, [.sl 1 bs.length (bs.map (.int .u8)), .int .i64 p]⟩

set_option maxRecDepth 10000 in
theorem l40Open_sound : Sound Try.prog 47 (fnP (ι := List Int) (fun bs => [.sl 1 bs.length (bs.map (.int .u8))]) (fun bs => bytesOk bs) (fun _ r news => ∃ bs', bytesOk bs' ∧ r = .ptr 0 0 0 ∧ news = [boxR 0 bs' 0])) := by
  refine sound_of Try.func47 rfl (enters_of Try.func47 (by kernel_rfl) (by kernel_rfl)) ?_
  intro (bs : List Int) (hb : bytesOk bs)
  conv => whnf
  repeat' (first
    | (refine aIf_t ?_; conv => whnf)
    | (refine aIf_f ?_; conv => whnf)
    | (refine fun (_ : _ ≤ maxLen) => ?_; conv => whnf)
    | (refine get_nat (by omega) ?_; conv => whnf)
    | (refine get_int (by omega) ?_; conv => whnf)
    | (refine get_nat0 (by omega) ?_; conv => whnf)
    | (refine get_int0 (by omega) ?_; conv => whnf)
    | (refine aGet_in rfl ?_; conv => whnf)
    | (refine And.intro (And.intro rfl (And.intro (by kernel_rfl) (And.intro rfl (by kernel_rfl)))) (And.intro (And.intro (by omega) (And.intro (bytes_le (b := 8) rfl (by omega)) (by omega))) ?_); conv => whnf)
    | (refine And.intro (by omega) ?_; conv => whnf)
    | (refine And.intro (by rw [List.length_map]; omega) ?_; conv => whnf)
    | (refine And.intro rfl (And.intro (List.cons_ne_nil _ _) ?_); conv => whnf)
    | (refine And.intro (Nat.le_of_ble_eq_true rfl) ?_; conv => whnf)
    | (refine mark_call rfl (by rfl) (by omega) ?_; conv => whnf)
    | (refine pick_call rfl (by assumption) (by omega) (fun _ _ _ _ _ => ?_); conv => whnf)
    | (refine num_call6 rfl rfl (by decide) rfl (by assumption) (by omega) (fun _ _ _ _ => ?_); conv => whnf)
    | (refine l1Draw_call rfl (by assumption) (by omega) (fun _ _ _ _ => ?_); conv => whnf)
    | (refine l1Any_call rfl (by assumption) (by omega) (fun _ _ _ _ => ?_); conv => whnf)
    | (refine l1Under_call rfl rfl (by decide) rfl (by omega) (by assumption) (by omega) (fun _ _ _ _ => ?_); conv => whnf)
    | (refine callG_t ?_; conv => whnf)
    | (refine And.intro (pureL_ints _ _) ?_; conv => whnf)
    | (refine cut_ints ?_; conv => whnf)
    | (refine cut_marks ?_; conv => whnf)
    | (refine cut_all rfl (scalL_ints _ _) ?_; conv => whnf)
    | (refine cut_all (by simp only [List.length_map]; omega) (scalL_ints _ _) ?_; conv => whnf)
    | (refine in_call ?_; conv => whnf)
    | (refine l40Open_call (by assumption) (fun _ _ => ?_); conv => whnf)
    | (refine drawJoin_call (by assumption) (fun _ _ _ => ?_); conv => whnf)
    | (refine drawSpread_call (by assumption) (fun _ _ _ _ => ?_); conv => whnf)
    | (refine teInts_call ?_; conv => whnf)
    | (refine sShapeOk_call ?_; conv => whnf)
    | (refine iShapeOk_call ?_; conv => whnf)
    | (refine toIntS_call (by omega) ?_; conv => whnf)
    | (refine eqIntS_call ?_; conv => whnf)
    | (refine in_callQ ?_; conv => whnf)
    | (refine l1Count_call ?_; conv => whnf)
    | (refine placeOk_call ?_; conv => whnf)
    | (refine l1Index_call (by assumption) ?_; conv => whnf)
    | (refine sIndexAt_call ?_; conv => whnf)
    | (refine iIndexAt_call ?_; conv => whnf)
    | (refine sCountOf_call ?_; conv => whnf)
    | (refine iCountOf_call ?_; conv => whnf)
    | (refine l1Strides_call (by omega) ?_; conv => whnf)
    | (refine append_int rfl rfl (by first | rfl | (simp only [List.length_take, turned_length]; omega)) (by omega) (Nat.le_of_ble_eq_true rfl) ?_; conv => whnf)
    | (refine append_int3 rfl rfl rfl rfl (by omega) (Nat.le_of_ble_eq_true rfl) ?_; conv => whnf)
    | (refine l1Turn_call (by assumption) ?_; conv => whnf)
    | (refine l1Place_call (by assumption) ?_; conv => whnf)
    | (refine sPlaceAt_call (by omega) ?_; conv => whnf)
    | (refine iPlaceAt_call (by omega) ?_; conv => whnf)
    | (refine sizeBefore_call (by omega) ?_; conv => whnf)
    | (refine l1Axis_call (by omega) ?_; conv => whnf)
    | (refine l1Join_call (And.intro (by assumption) (by assumption)) ?_; conv => whnf)
    | (refine sJoin_call ?_; conv => whnf)
    | (refine iJoin_call ?_; conv => whnf)
    | (refine l1Same_call ?_; conv => whnf)
    | (refine l1Index_n (by omega) (by omega) ?_; conv => whnf)
    | (refine sameNums_call ?_; conv => whnf)
    | (refine l1Spread_call (And.intro (by assumption) (by assumption)) ?_; conv => whnf)
    | (refine sSpreadIndex_call (by omega) ?_; conv => whnf)
    | (refine iSpreadIndex_call (by omega) ?_; conv => whnf)
    | (refine sTurnShape_call (by omega) ?_; conv => whnf)
    | (refine iTurnShape_call (by omega) ?_; conv => whnf)
    | (refine sBackTurn_call (by omega) ?_; conv => whnf)
    | (refine iBackTurn_call (by omega) ?_; conv => whnf)
    | (refine sStridesOf_call (by omega) ?_; conv => whnf)
    | (refine iStridesOf_call (by omega) ?_; conv => whnf)
    | (refine And.intro rfl (And.intro rfl (And.intro (by first | omega | (rw [List.length_map]; omega)) ?_)); conv => whnf)
    | (refine set_nat ?_ (by omega); conv => whnf)
    | (refine set_int ?_ (by omega); conv => whnf)
    | (refine set_bool ?_ (by omega); conv => whnf)
    | (refine set_force ?_; conv => whnf)
    | (refine get_bool0 (by omega) ?_; conv => whnf)
    | (refine And.intro (And.intro rfl (And.intro (by kernel_rfl) (And.intro rfl (by kernel_rfl)))) (And.intro (And.intro (by omega) (And.intro (bytes_le (b := 1) rfl (by omega)) (by omega))) ?_); conv => whnf)
    | (refine sTurnOk_call ?_; conv => whnf)
    | (refine held_marks_call rfl (by omega) ?_; conv => whnf)
    | (refine iTurnOk_call ?_; conv => whnf)
    | (refine And.intro (And.intro (by kernel_rfl) (And.intro rfl (Nat.le_of_ble_eq_true rfl))) ?_; conv => whnf)
    | (refine And.intro (And.intro (by kernel_rfl) (by kernel_rfl)) ?_; conv => whnf)
    | (refine And.intro (by kernel_rfl) ?_; conv => whnf)
    | refine aIf_eqt ?_
    | refine aIf_eqf ?_
    | refine aIf_not ?_
    | (refine aIf_bself ?_; conv => whnf)
    | (refine aIf_beself ?_; conv => whnf)
    | (refine aIf_iself ?_; conv => whnf)
    | (refine aIf_decself ?_; conv => whnf)
    | (refine aIf_dec (fun _ => ?_) (fun _ => ?_) <;> conv => whnf)
    | (refine aIf_beq (fun _ => ?_) (fun _ => ?_) <;> conv => whnf)
    | (refine aIf_bne (fun _ => ?_) (fun _ => ?_) <;> conv => whnf)
    | (refine aIf_bbne (fun _ => ?_) (fun _ => ?_) <;> conv => whnf)
    | (refine aIf_bbeq (fun _ => ?_) (fun _ => ?_) <;> conv => whnf)
    | (refine aIf_in (fun _ => ?_) (fun _ => ?_) <;> conv => whnf))
  · refine retBox (bs := bs.take 2000) (p := 0) (t := 55) ?_ ?_
    · have e : (bs.take 2000).length = 2000 := by simp; omega
      show some (Row.mk _ _ _ [.sl 1 2000 ((bs.map (.int .u8)).take 2000), .int .i64 0]) = _
      rw [← List.map_take]
      simp only [boxCells, e]
    · exact ⟨bs.take 2000, bytes_take hb _, rfl, rfl⟩
  · refine retBox (bs := bs) (p := 0) (t := 55) ?_ ?_
    · exact rfl
    · exact ⟨bs, hb, rfl, rfl⟩

theorem l40Open_call {bs : List Int} {env : List AV} {rows : List Row} {ctr low : Nat} {k : AV → St → Prop} (hb : bytesOk bs) (hk : ∀ bs', bytesOk bs' → k (.ptr rows.length ctr 0) ⟨env, rows ++ [boxR ctr bs' 0], ctr + 1, low⟩) :
    CallB Try.prog 47 ⟨env, rows, ctr, low⟩ [.sl 1 bs.length (bs.map (.int .u8))] k := callP_in l40Open_sound bs hb (by
  rintro r news ⟨bs', h1, rfl, rfl⟩
  have := hk bs' h1
  simpa [AV.shift] using this)

abbrev picked (n : Int) (r : AV) (news : List Row) : Prop := ∃ z, r = .int .i64 z ∧ news = [] ∧ (1 ≤ n → 0 ≤ z ∧ z < n) ∧ (n < 1 → z = 0)
set_option maxRecDepth 10000 in
theorem pick_sound : Sound Try.prog 49 (fnD (ι := Int) 55 (fun _ => 1) (fun n => [.int .i64 n]) (fun _ => True) picked) := by
  refine sound_of Try.func49 rfl (enters_of Try.func49 (by kernel_rfl) (by kernel_rfl)) ?_
  rintro ⟨n, bs, p⟩ ⟨-, hb, hp0, hp1⟩
  have hp0 : 0 ≤ p := hp0
  have hp1 : p + 1 ≤ 1000000000 := hp1
  have hb : bytesOk bs := hb
  have hw1 : IntKind.i64.wrap (p + 1) = p + 1 := IntWalk.i64_in _ (by omega)
  have hw2 : IntKind.i64.wrap (IntKind.i64.wrap (p + 1) - 1) = p := by rw [hw1]; exact (IntWalk.i64_in _ (by omega)).trans (by omega)
  have hx : IntKind.i64.wrap (IntKind.i64.wrap (IntKind.i64.wrap (IntKind.i64.wrap (p + 1) - 1) * 7) + 3) = p * 7 + 3 := by
    rw [hw2, IntWalk.i64_in (p * 7) (by omega)]; exact IntWalk.i64_in _ (by omega)
  have hr1 : 0 < bs.length → 0 ≤ (IntKind.i64.wrap (IntKind.i64.wrap (p + 1) - 1)).tmod bs.length ∧ (IntKind.i64.wrap (IntKind.i64.wrap (p + 1) - 1)).tmod bs.length < bs.length := fun h => rem_range (by omega) (by omega)
  have hr2 : 0 < bs.length → 0 ≤ (IntKind.i64.wrap (IntKind.i64.wrap (IntKind.i64.wrap (IntKind.i64.wrap (p + 1) - 1) * 7) + 3)).tmod bs.length ∧ (IntKind.i64.wrap (IntKind.i64.wrap (IntKind.i64.wrap (IntKind.i64.wrap (p + 1) - 1) * 7) + 3)).tmod bs.length < bs.length := fun h => rem_range (by omega) (by omega)
  conv => whnf
  repeat' (first
    | (refine aIf_t ?_; conv => whnf)
    | (refine aIf_f ?_; conv => whnf)
    | (refine fun (_ : _ ≤ maxLen) => ?_; conv => whnf)
    | (refine get_nat (by omega) ?_; conv => whnf)
    | (refine get_int (by omega) ?_; conv => whnf)
    | (refine get_nat0 (by omega) ?_; conv => whnf)
    | (refine get_int0 (by omega) ?_; conv => whnf)
    | (refine aGet_in rfl ?_; conv => whnf)
    | (refine And.intro (And.intro rfl (And.intro (by kernel_rfl) (And.intro rfl (by kernel_rfl)))) (And.intro (And.intro (by omega) (And.intro (bytes_le (b := 8) rfl (by omega)) (by omega))) ?_); conv => whnf)
    | (refine And.intro (by omega) ?_; conv => whnf)
    | (refine And.intro (by rw [List.length_map]; omega) ?_; conv => whnf)
    | (refine And.intro rfl (And.intro (List.cons_ne_nil _ _) ?_); conv => whnf)
    | (refine And.intro (Nat.le_of_ble_eq_true rfl) ?_; conv => whnf)
    | (refine mark_call rfl (by rfl) (by omega) ?_; conv => whnf)
    | (refine pick_call rfl (by assumption) (by omega) (fun _ _ _ _ _ => ?_); conv => whnf)
    | (refine num_call6 rfl rfl (by decide) rfl (by assumption) (by omega) (fun _ _ _ _ => ?_); conv => whnf)
    | (refine l1Draw_call rfl (by assumption) (by omega) (fun _ _ _ _ => ?_); conv => whnf)
    | (refine l1Any_call rfl (by assumption) (by omega) (fun _ _ _ _ => ?_); conv => whnf)
    | (refine l1Under_call rfl rfl (by decide) rfl (by omega) (by assumption) (by omega) (fun _ _ _ _ => ?_); conv => whnf)
    | (refine callG_t ?_; conv => whnf)
    | (refine And.intro (pureL_ints _ _) ?_; conv => whnf)
    | (refine cut_ints ?_; conv => whnf)
    | (refine cut_marks ?_; conv => whnf)
    | (refine cut_all rfl (scalL_ints _ _) ?_; conv => whnf)
    | (refine cut_all (by simp only [List.length_map]; omega) (scalL_ints _ _) ?_; conv => whnf)
    | (refine in_call ?_; conv => whnf)
    | (refine l40Open_call (by assumption) (fun _ _ => ?_); conv => whnf)
    | (refine drawJoin_call (by assumption) (fun _ _ _ => ?_); conv => whnf)
    | (refine drawSpread_call (by assumption) (fun _ _ _ _ => ?_); conv => whnf)
    | (refine teInts_call ?_; conv => whnf)
    | (refine sShapeOk_call ?_; conv => whnf)
    | (refine iShapeOk_call ?_; conv => whnf)
    | (refine toIntS_call (by omega) ?_; conv => whnf)
    | (refine eqIntS_call ?_; conv => whnf)
    | (refine in_callQ ?_; conv => whnf)
    | (refine l1Count_call ?_; conv => whnf)
    | (refine placeOk_call ?_; conv => whnf)
    | (refine l1Index_call (by assumption) ?_; conv => whnf)
    | (refine sIndexAt_call ?_; conv => whnf)
    | (refine iIndexAt_call ?_; conv => whnf)
    | (refine sCountOf_call ?_; conv => whnf)
    | (refine iCountOf_call ?_; conv => whnf)
    | (refine l1Strides_call (by omega) ?_; conv => whnf)
    | (refine append_int rfl rfl (by first | rfl | (simp only [List.length_take, turned_length]; omega)) (by omega) (Nat.le_of_ble_eq_true rfl) ?_; conv => whnf)
    | (refine append_int3 rfl rfl rfl rfl (by omega) (Nat.le_of_ble_eq_true rfl) ?_; conv => whnf)
    | (refine l1Turn_call (by assumption) ?_; conv => whnf)
    | (refine l1Place_call (by assumption) ?_; conv => whnf)
    | (refine sPlaceAt_call (by omega) ?_; conv => whnf)
    | (refine iPlaceAt_call (by omega) ?_; conv => whnf)
    | (refine sizeBefore_call (by omega) ?_; conv => whnf)
    | (refine l1Axis_call (by omega) ?_; conv => whnf)
    | (refine l1Join_call (And.intro (by assumption) (by assumption)) ?_; conv => whnf)
    | (refine sJoin_call ?_; conv => whnf)
    | (refine iJoin_call ?_; conv => whnf)
    | (refine l1Same_call ?_; conv => whnf)
    | (refine l1Index_n (by omega) (by omega) ?_; conv => whnf)
    | (refine sameNums_call ?_; conv => whnf)
    | (refine l1Spread_call (And.intro (by assumption) (by assumption)) ?_; conv => whnf)
    | (refine sSpreadIndex_call (by omega) ?_; conv => whnf)
    | (refine iSpreadIndex_call (by omega) ?_; conv => whnf)
    | (refine sTurnShape_call (by omega) ?_; conv => whnf)
    | (refine iTurnShape_call (by omega) ?_; conv => whnf)
    | (refine sBackTurn_call (by omega) ?_; conv => whnf)
    | (refine iBackTurn_call (by omega) ?_; conv => whnf)
    | (refine sStridesOf_call (by omega) ?_; conv => whnf)
    | (refine iStridesOf_call (by omega) ?_; conv => whnf)
    | (refine And.intro rfl (And.intro rfl (And.intro (by first | omega | (rw [List.length_map]; omega)) ?_)); conv => whnf)
    | (refine set_nat ?_ (by omega); conv => whnf)
    | (refine set_int ?_ (by omega); conv => whnf)
    | (refine set_bool ?_ (by omega); conv => whnf)
    | (refine set_force ?_; conv => whnf)
    | (refine get_bool0 (by omega) ?_; conv => whnf)
    | (refine And.intro (And.intro rfl (And.intro (by kernel_rfl) (And.intro rfl (by kernel_rfl)))) (And.intro (And.intro (by omega) (And.intro (bytes_le (b := 1) rfl (by omega)) (by omega))) ?_); conv => whnf)
    | (refine sTurnOk_call ?_; conv => whnf)
    | (refine held_marks_call rfl (by omega) ?_; conv => whnf)
    | (refine iTurnOk_call ?_; conv => whnf)
    | (refine And.intro (And.intro (by kernel_rfl) (And.intro rfl (Nat.le_of_ble_eq_true rfl))) ?_; conv => whnf)
    | (refine And.intro (And.intro (by kernel_rfl) (by kernel_rfl)) ?_; conv => whnf)
    | (refine And.intro (by kernel_rfl) ?_; conv => whnf)
    | refine aIf_eqt ?_
    | refine aIf_eqf ?_
    | refine aIf_not ?_
    | (refine aIf_bself ?_; conv => whnf)
    | (refine aIf_beself ?_; conv => whnf)
    | (refine aIf_iself ?_; conv => whnf)
    | (refine aIf_decself ?_; conv => whnf)
    | (refine aIf_dec (fun _ => ?_) (fun _ => ?_) <;> conv => whnf)
    | (refine aIf_beq (fun _ => ?_) (fun _ => ?_) <;> conv => whnf)
    | (refine aIf_bne (fun _ => ?_) (fun _ => ?_) <;> conv => whnf)
    | (refine aIf_bbne (fun _ => ?_) (fun _ => ?_) <;> conv => whnf)
    | (refine aIf_bbeq (fun _ => ?_) (fun _ => ?_) <;> conv => whnf)
    | (refine aIf_in (fun _ => ?_) (fun _ => ?_) <;> conv => whnf))
  · exact retDV (K := 1) rfl (by omega) ⟨0, rfl, rfl, fun h => by omega, fun _ => rfl⟩
  · exact retDV (K := 1) rfl (by omega) ⟨0, rfl, rfl, fun h => by omega, fun _ => rfl⟩
  · have hg := bytes_get hb (IntKind.i64.wrap (IntKind.i64.wrap (p + 1) - 1)).toNat
    have hw3 : IntKind.i64.wrap (bs.getD (IntKind.i64.wrap (IntKind.i64.wrap (p + 1) - 1)).toNat 0) = bs.getD (IntKind.i64.wrap (IntKind.i64.wrap (p + 1) - 1)).toNat 0 := IntWalk.i64_in _ (by omega)
    have hq := rem_range (x := IntKind.i64.wrap (bs.getD (IntKind.i64.wrap (IntKind.i64.wrap (p + 1) - 1)).toNat 0)) (n := n) (by omega) (by omega)
    exact retDV (K := 1) rfl (by omega) ⟨_, rfl, rfl, fun _ => hq, fun h => by omega⟩
  · have hk : 0 ≤ IntKind.i64.wrap (IntKind.i64.wrap (p + 1) - 1) ∧ IntKind.i64.wrap (IntKind.i64.wrap (p + 1) - 1) ≤ 1000000000 := by omega
    have hq := quo_range (x := IntKind.i64.wrap (IntKind.i64.wrap (p + 1) - 1)) (n := bs.length) hk.1 (by omega)
    exact retDV (K := 1) rfl (by omega) ⟨_, rfl, rfl, fun h => rem_range (mixed_range (mix_range (bytes_get hb _) (bytes_get hb _) hk ⟨hq.1, by omega⟩)) (by omega), fun h => by omega⟩
theorem pick_call {n : Int} {env : List AV} {rows : List Row} {ctr low τ ver : Nat} {bs : List Int} {p : Int} {k : AV → St → Prop} (hr : rows[τ]? = some (boxR ver bs p)) (hb : bytesOk bs) (hp : 0 ≤ p ∧ p + 1 ≤ 1000000000)
    (hk : ∀ p' z, (0 ≤ p' ∧ p' ≤ p + 1) → (1 ≤ n → 0 ≤ z ∧ z < n) → (n < 1 → z = 0) → k (.int .i64 z) ⟨env, setRows rows [τ] [[.sl 1 bs.length (bs.map (.int .u8)), .int .i64 p']], ctr + 1, low⟩) :
    CallG Try.prog 49 ⟨env, rows, ctr, low⟩ [.ptr τ ver 0, .int .i64 n] k := by
  refine callD_in pick_sound n trivial hr hb hp rfl rfl ?_
  rintro p' r news h1 h2 ⟨z, rfl, rfl, h3, h4⟩
  simpa [AV.shift, boxCells] using hk p' z ⟨h1, h2⟩ h3 h4

theorem getD_mem {zs : List Int} {k : Nat} (h : k < zs.length) : zs.getD k 0 ∈ zs := by
  have e : zs.getD k 0 = zs[k] := by simp [List.getD, List.getElem?_eq_getElem h]
  rw [e]; exact List.getElem_mem h
abbrev oneOfL (zs : List Int) (r : AV) (news : List Row) : Prop := ∃ z, r = .int .i64 z ∧ news = [] ∧ z ∈ zs
set_option maxRecDepth 10000 in
theorem num_sound : Sound Try.prog 66 (fnD (ι := Nat × List Int) 55 (fun _ => 1) (fun | (c, zs) => [.sl c zs.length (zs.map (.int .i64))]) (fun | (_, zs) => 1 ≤ zs.length) (fun | (_, zs) => oneOfL zs)) := by
  refine sound_of Try.func66 rfl (enters_of Try.func66 (by kernel_rfl) (by kernel_rfl)) ?_
  rintro ⟨⟨c, zs⟩, bs, p⟩ ⟨hz, hb, hp0, hp1⟩
  have hp0 : 0 ≤ p := hp0
  have hp1 : p + 1 ≤ 1000000000 := hp1
  have hb : bytesOk bs := hb
  have hz : 1 ≤ zs.length := hz
  conv => whnf
  repeat' (first
    | (refine aIf_t ?_; conv => whnf)
    | (refine aIf_f ?_; conv => whnf)
    | (refine fun (_ : _ ≤ maxLen) => ?_; conv => whnf)
    | (refine get_nat (by omega) ?_; conv => whnf)
    | (refine get_int (by omega) ?_; conv => whnf)
    | (refine get_nat0 (by omega) ?_; conv => whnf)
    | (refine get_int0 (by omega) ?_; conv => whnf)
    | (refine aGet_in rfl ?_; conv => whnf)
    | (refine And.intro (And.intro rfl (And.intro (by kernel_rfl) (And.intro rfl (by kernel_rfl)))) (And.intro (And.intro (by omega) (And.intro (bytes_le (b := 8) rfl (by omega)) (by omega))) ?_); conv => whnf)
    | (refine And.intro (by omega) ?_; conv => whnf)
    | (refine And.intro (by rw [List.length_map]; omega) ?_; conv => whnf)
    | (refine And.intro rfl (And.intro (List.cons_ne_nil _ _) ?_); conv => whnf)
    | (refine And.intro (Nat.le_of_ble_eq_true rfl) ?_; conv => whnf)
    | (refine mark_call rfl (by rfl) (by omega) ?_; conv => whnf)
    | (refine pick_call rfl (by assumption) (by omega) (fun _ _ _ _ _ => ?_); conv => whnf)
    | (refine num_call6 rfl rfl (by decide) rfl (by assumption) (by omega) (fun _ _ _ _ => ?_); conv => whnf)
    | (refine l1Draw_call rfl (by assumption) (by omega) (fun _ _ _ _ => ?_); conv => whnf)
    | (refine l1Any_call rfl (by assumption) (by omega) (fun _ _ _ _ => ?_); conv => whnf)
    | (refine l1Under_call rfl rfl (by decide) rfl (by omega) (by assumption) (by omega) (fun _ _ _ _ => ?_); conv => whnf)
    | (refine callG_t ?_; conv => whnf)
    | (refine And.intro (pureL_ints _ _) ?_; conv => whnf)
    | (refine cut_ints ?_; conv => whnf)
    | (refine cut_marks ?_; conv => whnf)
    | (refine cut_all rfl (scalL_ints _ _) ?_; conv => whnf)
    | (refine cut_all (by simp only [List.length_map]; omega) (scalL_ints _ _) ?_; conv => whnf)
    | (refine in_call ?_; conv => whnf)
    | (refine l40Open_call (by assumption) (fun _ _ => ?_); conv => whnf)
    | (refine drawJoin_call (by assumption) (fun _ _ _ => ?_); conv => whnf)
    | (refine drawSpread_call (by assumption) (fun _ _ _ _ => ?_); conv => whnf)
    | (refine teInts_call ?_; conv => whnf)
    | (refine sShapeOk_call ?_; conv => whnf)
    | (refine iShapeOk_call ?_; conv => whnf)
    | (refine toIntS_call (by omega) ?_; conv => whnf)
    | (refine eqIntS_call ?_; conv => whnf)
    | (refine in_callQ ?_; conv => whnf)
    | (refine l1Count_call ?_; conv => whnf)
    | (refine placeOk_call ?_; conv => whnf)
    | (refine l1Index_call (by assumption) ?_; conv => whnf)
    | (refine sIndexAt_call ?_; conv => whnf)
    | (refine iIndexAt_call ?_; conv => whnf)
    | (refine sCountOf_call ?_; conv => whnf)
    | (refine iCountOf_call ?_; conv => whnf)
    | (refine l1Strides_call (by omega) ?_; conv => whnf)
    | (refine append_int rfl rfl (by first | rfl | (simp only [List.length_take, turned_length]; omega)) (by omega) (Nat.le_of_ble_eq_true rfl) ?_; conv => whnf)
    | (refine append_int3 rfl rfl rfl rfl (by omega) (Nat.le_of_ble_eq_true rfl) ?_; conv => whnf)
    | (refine l1Turn_call (by assumption) ?_; conv => whnf)
    | (refine l1Place_call (by assumption) ?_; conv => whnf)
    | (refine sPlaceAt_call (by omega) ?_; conv => whnf)
    | (refine iPlaceAt_call (by omega) ?_; conv => whnf)
    | (refine sizeBefore_call (by omega) ?_; conv => whnf)
    | (refine l1Axis_call (by omega) ?_; conv => whnf)
    | (refine l1Join_call (And.intro (by assumption) (by assumption)) ?_; conv => whnf)
    | (refine sJoin_call ?_; conv => whnf)
    | (refine iJoin_call ?_; conv => whnf)
    | (refine l1Same_call ?_; conv => whnf)
    | (refine l1Index_n (by omega) (by omega) ?_; conv => whnf)
    | (refine sameNums_call ?_; conv => whnf)
    | (refine l1Spread_call (And.intro (by assumption) (by assumption)) ?_; conv => whnf)
    | (refine sSpreadIndex_call (by omega) ?_; conv => whnf)
    | (refine iSpreadIndex_call (by omega) ?_; conv => whnf)
    | (refine sTurnShape_call (by omega) ?_; conv => whnf)
    | (refine iTurnShape_call (by omega) ?_; conv => whnf)
    | (refine sBackTurn_call (by omega) ?_; conv => whnf)
    | (refine iBackTurn_call (by omega) ?_; conv => whnf)
    | (refine sStridesOf_call (by omega) ?_; conv => whnf)
    | (refine iStridesOf_call (by omega) ?_; conv => whnf)
    | (refine And.intro rfl (And.intro rfl (And.intro (by first | omega | (rw [List.length_map]; omega)) ?_)); conv => whnf)
    | (refine set_nat ?_ (by omega); conv => whnf)
    | (refine set_int ?_ (by omega); conv => whnf)
    | (refine set_bool ?_ (by omega); conv => whnf)
    | (refine set_force ?_; conv => whnf)
    | (refine get_bool0 (by omega) ?_; conv => whnf)
    | (refine And.intro (And.intro rfl (And.intro (by kernel_rfl) (And.intro rfl (by kernel_rfl)))) (And.intro (And.intro (by omega) (And.intro (bytes_le (b := 1) rfl (by omega)) (by omega))) ?_); conv => whnf)
    | (refine sTurnOk_call ?_; conv => whnf)
    | (refine held_marks_call rfl (by omega) ?_; conv => whnf)
    | (refine iTurnOk_call ?_; conv => whnf)
    | (refine And.intro (And.intro (by kernel_rfl) (And.intro rfl (Nat.le_of_ble_eq_true rfl))) ?_; conv => whnf)
    | (refine And.intro (And.intro (by kernel_rfl) (by kernel_rfl)) ?_; conv => whnf)
    | (refine And.intro (by kernel_rfl) ?_; conv => whnf)
    | refine aIf_eqt ?_
    | refine aIf_eqf ?_
    | refine aIf_not ?_
    | (refine aIf_bself ?_; conv => whnf)
    | (refine aIf_beself ?_; conv => whnf)
    | (refine aIf_iself ?_; conv => whnf)
    | (refine aIf_decself ?_; conv => whnf)
    | (refine aIf_dec (fun _ => ?_) (fun _ => ?_) <;> conv => whnf)
    | (refine aIf_beq (fun _ => ?_) (fun _ => ?_) <;> conv => whnf)
    | (refine aIf_bne (fun _ => ?_) (fun _ => ?_) <;> conv => whnf)
    | (refine aIf_bbne (fun _ => ?_) (fun _ => ?_) <;> conv => whnf)
    | (refine aIf_bbeq (fun _ => ?_) (fun _ => ?_) <;> conv => whnf)
    | (refine aIf_in (fun _ => ?_) (fun _ => ?_) <;> conv => whnf))
  exact retDV (K := 1) rfl (by omega) ⟨_, rfl, rfl, getD_mem (by omega)⟩
theorem num_call {zs : List Int} {env : List AV} {rows : List Row} {ctr low τ ver τ' ver' n : Nat} {t : TypeId} {bs : List Int} {p : Int} {k : AV → St → Prop} (hz : 1 ≤ zs.length) (hr : rows[τ]? = some (boxR ver bs p)) (hr' : rows[τ']? = some ⟨ver', t, 1, zs.map (.int .i64)⟩) (hne : τ' ≠ τ) (hn : n = zs.length) (hb : bytesOk bs) (hp : 0 ≤ p ∧ p + 1 ≤ 1000000000)
    (hk : ∀ p' z, (0 ≤ p' ∧ p' ≤ p + 1) → z ∈ zs → k (.int .i64 z) ⟨env, setRows rows [τ] [[.sl 1 bs.length (bs.map (.int .u8)), .int .i64 p']], ctr + 1, low⟩) :
    CallG Try.prog 66 ⟨env, rows, ctr, low⟩ [.ptr τ ver 0, .ref τ' ver' 0 n] k := by
  refine callD_in num_sound (0, zs) hz hr hb hp rfl ?_ ?_
  · show (callArg _ [τ] false (.ref τ' ver' 0 n)).bind _ = _
    rw [arg_ints hr' hn hne]
    rfl
  · rintro p' r news h1 h2 ⟨z, rfl, rfl, h3⟩
    simpa [AV.shift, boxCells] using hk p' z ⟨h1, h2⟩ h3
theorem num_call6 {a b c d e f : Int} {env : List AV} {rows : List Row} {ctr low τ ver τ' ver' n : Nat} {t : TypeId} {bs : List Int} {p : Int} {k : AV → St → Prop} (hr : rows[τ]? = some (boxR ver bs p)) (hr' : rows[τ']? = some ⟨ver', t, 1, [.int .i64 a, .int .i64 b, .int .i64 c, .int .i64 d, .int .i64 e, .int .i64 f]⟩) (hne : τ' ≠ τ) (hn : n = 6) (hb : bytesOk bs) (hp : 0 ≤ p ∧ p + 1 ≤ 1000000000)
    (hk : ∀ p' z, (0 ≤ p' ∧ p' ≤ p + 1) → z ∈ [a, b, c, d, e, f] → k (.int .i64 z) ⟨env, setRows rows [τ] [[.sl 1 bs.length (bs.map (.int .u8)), .int .i64 p']], ctr + 1, low⟩) :
    CallG Try.prog 66 ⟨env, rows, ctr, low⟩ [.ptr τ ver 0, .ref τ' ver' 0 n] k := num_call (zs := [a, b, c, d, e, f]) (by simp) hr hr' hne hn hb hp hk

end Go.Proofs.Ytmhpandbmoalaaa
