/- Chapter 2: BesideOf of the model: the numbers. -/
import Derived.Test.YtegoncendpboiaaS39
import Derived.Test.YtegoncendpboiaaAmW
namespace Go.Proofs.Ytegoncendpboiaa
set_option maxRecDepth 20000
open Go.RowKit Go.Am
attribute [local irreducible] aPlan aGet aIf aLoop aCall RetB NextB CallB CallG aCut aSet aAppend

def sL2Beside : CSpec :=
  { ι := Nat × List Int × Nat × List Int × Nat × List Int × Nat × List Int × Nat, inout := [false, false, false, true],
    args := fun | (c, xs, d, zs, e, ps, f, qs, a) => [.agg [.sl c xs.length (xs.map (.int .i64)), .sl d zs.length (zs.map (.int .i64))], .agg [.sl e ps.length (ps.map (.int .i64)), .sl f qs.length (qs.map (.int .i64))], .int .i64 a, .ref 0 0 0 (bsSh xs a (ps.getD a 0)).length],
    ins := fun | (_, xs, _, _, _, ps, _, _, a) => [⟨0, 3, 1, (bsSh xs a (ps.getD a 0)).map (.int .i64)⟩],
    pre := fun | (_, xs, _, zs, _, ps, _, qs, a) => bsP xs zs ps qs a,
    post := fun | (_, xs, _, zs, _, ps, _, qs, a), r, ic, news => r = .agg [.ref 0 0 0 (bsSh xs a (ps.getD a 0)).length, .ref 1 0 0 (bsL xs zs qs a (ps.getD a 0)).length] ∧ ic = [(bsSh xs a (ps.getD a 0)).map (.int .i64)] ∧ news = [rowL 3 (bsL xs zs qs a (ps.getD a 0))] }
theorem retB1 {env : List AV} {ctr : Nat} {t : TypeId} {sh ws L : List Int} {v0 n n' m τ v : Nat} {rest : List Row} (h3 : rest[τ]? = some ⟨v, t, 1, ws.map (.int .i64)⟩) (hL : L = ws) (hn : n = n') (hm : m = ws.length) :
    RetB ⟨env, ⟨v0, t, 1, sh.map (.int .i64)⟩ :: rest, ctr, 1⟩ [⟨0, t, 1, sh.map (.int .i64)⟩] (fun r ic news => r = .agg [.ref 0 0 0 n', .ref 1 0 0 L.length] ∧ ic = [sh.map (.int .i64)] ∧ news = [rowL t L]) (.agg [.ref 0 v0 0 n, .ref (τ + 1) v 0 m]) := by
  subst hL; subst hn; subst hm
  refine RetB1.ret ⟨[τ + 1], [⟨0, t, 1, sh.map (.int .i64)⟩, rowL t L], _, [sh.map (.int .i64)], [rowL t L], (show ([0, τ + 1] : List Nat).Nodup by simp), ?_, ?_, rfl, rfl, rfl, rfl, rfl⟩
  · show insOf _ [0, τ + 1] [0, τ + 1] = _
    simp [insOf, h3, protL_ren (protL_ints .i64 sh), protL_ren (protL_ints .i64 L)]
  · show AV.ren _ [0, τ + 1] _ = _
    simp [AV.ren, renL, h3, List.idxOf, List.findIdx_cons]
set_option maxHeartbeats 8000000 in
theorem l2Beside_sound : Sound Try.prog 74 sL2Beside := by
  refine sound_of Try.func74 rfl (enters_of Try.func74 (by kernel_rfl) (by kernel_rfl)) ?_
  rintro ⟨c, xs, d, zs, e, ps, f, qs, a⟩ hpre
  have hpre : bsP xs zs ps qs a := hpre
  have hP := hpre
  obtain ⟨ht, hu, hi, he, hle⟩ := hpre
  rw [Int.toNat_natCast] at he hle
  have ha : a < xs.length := by omega
  have hpl : ps.length = xs.length := by rw [he]; simp
  obtain ⟨F, e1, e2, -, hp⟩ := bs_all ht hu ha he
  obtain ⟨g1, g2, g3⟩ := F.good hle
  have hcnt := cnt64 g1 (Nat.le_refl _)
  have hs := ((tensorOk_iff _ _).1 ht).1
  have hsz := size_in hs ha
  have hx3 := ((shapeOk_iff _).1 hs).1
  have hshl := bsSh_length xs a (ps.getD a 0)
  have hmax : maxLen = 9223372036854775807 := rfl
  conv => whnf
  dsimp only
  repeat' (first
    | (refine plan_in (id := 6) [0, 1, 2, 3, 4, 5, 6, 7, 8, 9] (by kernel_rfl) (by kernel_rfl) ?_; conv => whnf)
    | (refine plan_in (id := 7) [0, 1, 2, 3, 4, 5, 6, 7, 8, 9, 10, 11, 12, 13] (by kernel_rfl) (by kernel_rfl) ?_; conv => whnf)
    | (refine plan_in (id := 8) [0, 1, 2, 3, 4, 5, 6, 7, 8, 9, 10, 11, 12, 13] (by kernel_rfl) (by kernel_rfl) ?_; conv => whnf)
    | (refine plan_in (id := 9) [0, 1, 2, 3, 4, 5, 6, 7, 8, 9, 10, 11, 12, 13] (by kernel_rfl) (by kernel_rfl) ?_; conv => whnf)
    | (refine aIf_t ?_; conv => whnf)
    | (refine aIf_f ?_; conv => whnf)
    | (refine fun (_ : _ ≤ maxLen) => ?_; conv => whnf)
    | (refine get_nat0 (by omega) ?_; conv => whnf)
    | (refine get_int0 (by omega) ?_; conv => whnf)
    | (refine get_nat (by omega) ?_; conv => whnf)
    | (refine get_int (by omega) ?_; conv => whnf)
    | (refine aGet_in rfl ?_; conv => whnf)
    | (refine And.intro (And.intro (Int.le_refl _) (And.intro (by kernel_rfl) (And.intro rfl (by kernel_rfl)))) (And.intro (And.intro (by omega) (And.intro (bytes_le (b := 8) rfl (by omega)) (by omega))) ?_); conv => whnf)
    | (refine And.intro (by omega) ?_; conv => whnf)
    | (refine load_same ?_; conv => whnf)
    | (refine And.intro (by rw [List.length_map]; omega) ?_; conv => whnf)
    | (refine And.intro rfl (And.intro (List.cons_ne_nil _ _) ?_); conv => whnf)
    | (refine And.intro (Nat.le_of_ble_eq_true rfl) ?_; conv => whnf)
    | (refine callG_t ?_; conv => whnf)
    | (refine And.intro (And.intro (Int.le_refl _) (And.intro (by kernel_rfl) (And.intro rfl (by kernel_rfl)))) (And.intro (And.intro (by omega) (And.intro (bytes_le (b := 24) rfl (by omega)) (by omega))) ?_); conv => whnf)
    | (refine And.intro (And.intro (Int.le_refl _) (And.intro (by kernel_rfl) (And.intro rfl (by kernel_rfl)))) (And.intro (And.intro (by omega) (And.intro (bytes_le (b := 48) rfl (by omega)) (by omega))) ?_); conv => whnf)
    | (refine And.intro rfl (And.intro rfl (And.intro (by rw [fillC_length (by omega)]; omega) ?_)); conv => whnf)
    | (refine And.intro rfl (And.intro rfl (And.intro (by rw [fillF_length (ndO_length _) rfl (by omega)]; omega) ?_)); conv => whnf)
    | (refine And.intro rfl (And.intro rfl (And.intro (by rw [fillF_length (tnO_length _) rfl (by omega)]; omega) ?_)); conv => whnf)
    | (refine set_fillC (by omega) (by omega) ?_; conv => whnf)
    | (refine set_fillF (ndO_length _) (by omega) rfl ?_; conv => whnf)
    | (refine set_fillF (tnO_length _) (by omega) rfl ?_; conv => whnf)
    | (refine And.intro (ond_fit (by omega) (Nat.le_of_ble_eq_true rfl)) ?_; conv => whnf)
    | (refine set_ond (by omega) (Nat.le_of_ble_eq_true rfl) ⟨_, rfl⟩ (fun _ _ _ _ => ?_); conv => whnf)
    | (refine get_oi_n (by omega) ?_; conv => whnf)
    | (refine get_ond_n (by omega) rfl ?_; conv => whnf)
    | (refine get_otn_n (by omega) rfl ?_; conv => whnf)
    | (refine takeN_in ?_; conv => whnf)
    | (refine And.intro (pureL_ints _ _) ?_; conv => whnf)
    | (refine And.intro (pureL_take _ _ _) ?_; conv => whnf)
    | (refine And.intro (pureL_cut _ _ _ _) ?_; conv => whnf)
    | (refine cut_ints ?_; conv => whnf)
    | (refine cut_marks ?_; conv => whnf)
    | (refine cut_all rfl (scalL_ints _ _) ?_; conv => whnf)
    | (refine cut_all (by simp only [List.length_map]; omega) (scalL_ints _ _) ?_; conv => whnf)
    | (refine l1Count_call ?_; conv => whnf)
    | (refine l1Index_call (by assumption) ?_; conv => whnf)
    | (refine append_int rfl rfl (by first | rfl | (simp only [List.length_take, turned_length]; omega)) (by omega) (Nat.le_of_ble_eq_true rfl) ?_; conv => whnf)
    | (refine l1Place_call (by assumption) ?_; conv => whnf)
    | (refine l1Index_n (by omega) (by omega) ?_; conv => whnf)
    | (refine And.intro rfl (And.intro rfl (And.intro (by first | omega | (rw [List.length_map]; omega)) ?_)); conv => whnf)
    | (refine set_nat ?_ (by omega); conv => whnf)
    | (refine set_int ?_ (by omega); conv => whnf)
    | (refine set_bool ?_ (by omega); conv => whnf)
    | (refine set_force ?_; conv => whnf)
    | (refine get_bool0 (by omega) ?_; conv => whnf)
    | (refine And.intro (And.intro (Int.le_refl _) (And.intro (by kernel_rfl) (And.intro rfl (by kernel_rfl)))) (And.intro (And.intro (by omega) (And.intro (bytes_le (b := 1) rfl (by omega)) (by omega))) ?_); conv => whnf)
    | (refine And.intro (And.intro (by kernel_rfl) (And.intro rfl (Nat.le_of_ble_eq_true rfl))) ?_; conv => whnf)
    | (refine And.intro (And.intro (by kernel_rfl) (by kernel_rfl)) ?_; conv => whnf)
    | (refine And.intro (by kernel_rfl) ?_; conv => whnf)
    | (refine aIf_tt (by assumption) ?_; conv => whnf)
    | (refine aIf_ff (by assumption) ?_; conv => whnf)
    | refine aIf_eqt ?_
    | refine aIf_eqf ?_
    | refine aIf_not ?_
    | (refine aIf_bself ?_; conv => whnf)
    | (refine aIf_beself ?_; conv => whnf)
    | (refine aIf_iself ?_; conv => whnf)
    | (refine aIf_decself ?_; conv => whnf)
    | (refine aIf_dec (fun _ => ?_) (fun _ => ?_) <;> conv => whnf)
    | (refine aIf_beq (fun _ => ?_) (fun _ => ?_) <;> conv => whnf)
    | (refine aIf_bne (fun _ => ?_) (fun _ => ?_) <;> conv => whnf)
    | (refine aIf_bbne (fun _ => ?_) (fun _ => ?_) <;> conv => whnf)
    | (refine aIf_bbeq (fun _ => ?_) (fun _ => ?_) <;> conv => whnf)
    | (refine aIf_in (fun _ => ?_) (fun _ => ?_) <;> conv => whnf))
  refine loop_u (ι := Nat × List Int) [false, false, true, true, true, true, false, false, true, true, true, false, false, false, false, false, false, false, false, false, false, false, false, false, false, false, false, false, false, false, false, false, false, false, false, false, false, false, false, false, false, false, false, false, false, false, false, false, false, false, false, false, false, false, false, false, false, false, false, false, false, false, false, false, false, false, false, false, false, false, false, false, false] (fun | (k, _) => [(10, .int .i64 k)]) (fun | (_, ws) => [(6, ws.map (.int .i64)), (9, [.ref 0 0 0 (bsSh xs a (ps.getD a 0)).length, .ref 6 6 0 ws.length])]) (fun | (k, ws) => (k : Int) ≤ cntTo (bsSh xs a (ps.getD a 0)) (bsSh xs a (ps.getD a 0)).length ∧ ws = bsTo xs zs qs a (ps.getD a 0) k) (fun x => 64 - x.1) ((0, [])) ⟨by omega, rfl⟩ ?_ ?_
  · conv => whnf
    repeat' (first
      | exact trivial
      | exact rfl
      | exact pureL_ints _ _
      | exact pureL_bools _
      | exact Or.inl (And.intro rfl rfl)
      | exact Or.inl (And.intro (pureL_box _ _) rfl)
      | exact le_ints rfl
      | exact le_ints (rep_ints _ _)
      | exact le_bools rfl
      | exact le_bools (rep_bools _)
      | exact Or.inl (And.intro (pureL_pair _ _ _ _ _ _) rfl)
      | refine le_ints ?_
      | refine Or.inr ?_
      | refine And.intro ?_ ?_
      | exact Nat.le_of_ble_eq_true rfl
      | exact Nat.zero_le _
      | exact int_eq (by assumption)
      | exact int_eq (by omega)
      | exact int_eq (Int.add_zero _).symm
      | exact List.length_append
      | exact int_eq (by rw [IntWalk.i64_in _ (by omega)] <;> omega))
  · rintro ⟨k, ws⟩ ⟨hk, hws⟩
    have hk : (k : Int) ≤ cntTo (bsSh xs a (ps.getD a 0)) (bsSh xs a (ps.getD a 0)).length := hk
    have hws : ws = bsTo xs zs qs a (ps.getD a 0) k := hws
    have hwl : ws.length = k := by rw [hws]; exact bsTo_length _ _ _ _ _ _
    have hpl1 : (places (bsSh xs a (ps.getD a 0)) k).length = xs.length := (places_length _ _).trans hshl
    by_cases hlt : (k : Int) < cntTo (bsSh xs a (ps.getD a 0)) (bsSh xs a (ps.getD a 0)).length
    · by_cases hb : (places (bsSh xs a (ps.getD a 0)) k).getD a 0 < xs.getD a 0
      · obtain ⟨b1, b2⟩ := bsRef_t hP hlt hb
        conv => whnf
        repeat' (first
          | (refine plan_in (id := 6) [0, 1, 2, 3, 4, 5, 6, 7, 8, 9] (by kernel_rfl) (by kernel_rfl) ?_; conv => whnf)
          | (refine plan_in (id := 7) [0, 1, 2, 3, 4, 5, 6, 7, 8, 9, 10, 11, 12, 13] (by kernel_rfl) (by kernel_rfl) ?_; conv => whnf)
          | (refine plan_in (id := 8) [0, 1, 2, 3, 4, 5, 6, 7, 8, 9, 10, 11, 12, 13] (by kernel_rfl) (by kernel_rfl) ?_; conv => whnf)
          | (refine plan_in (id := 9) [0, 1, 2, 3, 4, 5, 6, 7, 8, 9, 10, 11, 12, 13] (by kernel_rfl) (by kernel_rfl) ?_; conv => whnf)
          | (refine aIf_t ?_; conv => whnf)
          | (refine aIf_f ?_; conv => whnf)
          | (refine fun (_ : _ ≤ maxLen) => ?_; conv => whnf)
          | (refine get_nat0 (by omega) ?_; conv => whnf)
          | (refine get_int0 (by omega) ?_; conv => whnf)
          | (refine get_nat (by omega) ?_; conv => whnf)
          | (refine get_int (by omega) ?_; conv => whnf)
          | (refine aGet_in rfl ?_; conv => whnf)
          | (refine And.intro (And.intro (Int.le_refl _) (And.intro (by kernel_rfl) (And.intro rfl (by kernel_rfl)))) (And.intro (And.intro (by omega) (And.intro (bytes_le (b := 8) rfl (by omega)) (by omega))) ?_); conv => whnf)
          | (refine And.intro (by omega) ?_; conv => whnf)
          | (refine load_same ?_; conv => whnf)
          | (refine And.intro (by rw [List.length_map]; omega) ?_; conv => whnf)
          | (refine And.intro rfl (And.intro (List.cons_ne_nil _ _) ?_); conv => whnf)
          | (refine And.intro (Nat.le_of_ble_eq_true rfl) ?_; conv => whnf)
          | (refine callG_t ?_; conv => whnf)
          | (refine And.intro (And.intro (Int.le_refl _) (And.intro (by kernel_rfl) (And.intro rfl (by kernel_rfl)))) (And.intro (And.intro (by omega) (And.intro (bytes_le (b := 24) rfl (by omega)) (by omega))) ?_); conv => whnf)
          | (refine And.intro (And.intro (Int.le_refl _) (And.intro (by kernel_rfl) (And.intro rfl (by kernel_rfl)))) (And.intro (And.intro (by omega) (And.intro (bytes_le (b := 48) rfl (by omega)) (by omega))) ?_); conv => whnf)
          | (refine And.intro rfl (And.intro rfl (And.intro (by rw [fillC_length (by omega)]; omega) ?_)); conv => whnf)
          | (refine And.intro rfl (And.intro rfl (And.intro (by rw [fillF_length (ndO_length _) rfl (by omega)]; omega) ?_)); conv => whnf)
          | (refine And.intro rfl (And.intro rfl (And.intro (by rw [fillF_length (tnO_length _) rfl (by omega)]; omega) ?_)); conv => whnf)
          | (refine set_fillC (by omega) (by omega) ?_; conv => whnf)
          | (refine set_fillF (ndO_length _) (by omega) rfl ?_; conv => whnf)
          | (refine set_fillF (tnO_length _) (by omega) rfl ?_; conv => whnf)
          | (refine And.intro (ond_fit (by omega) (Nat.le_of_ble_eq_true rfl)) ?_; conv => whnf)
          | (refine set_ond (by omega) (Nat.le_of_ble_eq_true rfl) ⟨_, rfl⟩ (fun _ _ _ _ => ?_); conv => whnf)
          | (refine get_oi_n (by omega) ?_; conv => whnf)
          | (refine get_ond_n (by omega) rfl ?_; conv => whnf)
          | (refine get_otn_n (by omega) rfl ?_; conv => whnf)
          | (refine takeN_in ?_; conv => whnf)
          | (refine And.intro (pureL_ints _ _) ?_; conv => whnf)
          | (refine And.intro (pureL_take _ _ _) ?_; conv => whnf)
          | (refine And.intro (pureL_cut _ _ _ _) ?_; conv => whnf)
          | (refine cut_ints ?_; conv => whnf)
          | (refine cut_marks ?_; conv => whnf)
          | (refine cut_all rfl (scalL_ints _ _) ?_; conv => whnf)
          | (refine cut_all (by simp only [List.length_map]; omega) (scalL_ints _ _) ?_; conv => whnf)
          | (refine l1Count_call ?_; conv => whnf)
          | (refine l1Index_call (by assumption) ?_; conv => whnf)
          | (refine append_int rfl rfl (by first | rfl | (simp only [List.length_take, turned_length]; omega)) (by omega) (Nat.le_of_ble_eq_true rfl) ?_; conv => whnf)
          | (refine l1Place_call (by assumption) ?_; conv => whnf)
          | (refine l1Index_n (by omega) (by omega) ?_; conv => whnf)
          | (refine And.intro rfl (And.intro rfl (And.intro (by first | omega | (rw [List.length_map]; omega)) ?_)); conv => whnf)
          | (refine set_nat ?_ (by omega); conv => whnf)
          | (refine set_int ?_ (by omega); conv => whnf)
          | (refine set_bool ?_ (by omega); conv => whnf)
          | (refine set_force ?_; conv => whnf)
          | (refine get_bool0 (by omega) ?_; conv => whnf)
          | (refine And.intro (And.intro (Int.le_refl _) (And.intro (by kernel_rfl) (And.intro rfl (by kernel_rfl)))) (And.intro (And.intro (by omega) (And.intro (bytes_le (b := 1) rfl (by omega)) (by omega))) ?_); conv => whnf)
          | (refine And.intro (And.intro (by kernel_rfl) (And.intro rfl (Nat.le_of_ble_eq_true rfl))) ?_; conv => whnf)
          | (refine And.intro (And.intro (by kernel_rfl) (by kernel_rfl)) ?_; conv => whnf)
          | (refine And.intro (by kernel_rfl) ?_; conv => whnf)
          | (refine aIf_tt (by assumption) ?_; conv => whnf)
          | (refine aIf_ff (by assumption) ?_; conv => whnf)
          | refine aIf_eqt ?_
          | refine aIf_eqf ?_
          | refine aIf_not ?_
          | (refine aIf_bself ?_; conv => whnf)
          | (refine aIf_beself ?_; conv => whnf)
          | (refine aIf_iself ?_; conv => whnf)
          | (refine aIf_decself ?_; conv => whnf)
          | (refine aIf_dec (fun _ => ?_) (fun _ => ?_) <;> conv => whnf)
          | (refine aIf_beq (fun _ => ?_) (fun _ => ?_) <;> conv => whnf)
          | (refine aIf_bne (fun _ => ?_) (fun _ => ?_) <;> conv => whnf)
          | (refine aIf_bbne (fun _ => ?_) (fun _ => ?_) <;> conv => whnf)
          | (refine aIf_bbeq (fun _ => ?_) (fun _ => ?_) <;> conv => whnf)
          | (refine aIf_in (fun _ => ?_) (fun _ => ?_) <;> conv => whnf))
        all_goals (first | (exfalso; omega) | skip)
        refine next_u (k + 1, ws ++ [zs.getD (idxTo xs (places (bsSh xs a (ps.getD a 0)) k) xs.length).toNat 0]) (show 64 - (k + 1) < 64 - k by omega) ⟨(by omega : ((k + 1 : Nat) : Int) ≤ _), by rw [bsTo_succ, hws, b2]⟩ ?_
        conv => whnf
        repeat' (first
          | exact trivial
          | exact rfl
          | exact pureL_ints _ _
          | exact pureL_bools _
          | exact Or.inl (And.intro rfl rfl)
          | exact Or.inl (And.intro (pureL_box _ _) rfl)
          | exact le_ints rfl
          | exact le_ints (rep_ints _ _)
          | exact le_bools rfl
          | exact le_bools (rep_bools _)
          | exact Or.inl (And.intro (pureL_pair _ _ _ _ _ _) rfl)
          | refine le_ints ?_
          | refine Or.inr ?_
          | refine And.intro ?_ ?_
          | exact Nat.le_of_ble_eq_true rfl
          | exact Nat.zero_le _
          | exact int_eq (by assumption)
          | exact int_eq (by omega)
          | exact int_eq (Int.add_zero _).symm
          | exact List.length_append
          | exact int_eq (by rw [IntWalk.i64_in _ (by omega)] <;> omega))
      · obtain ⟨b1, b2⟩ := bsRef_f hP hlt hb
        have hpin := places_in g1 ⟨(by omega : (0 : Int) ≤ k), hlt⟩ (show a < (bsSh xs a (ps.getD a 0)).length by omega)
        have hw : IntKind.i64.wrap ((places (bsSh xs a (ps.getD a 0)) k).getD a 0 - xs.getD a 0) = (places (bsSh xs a (ps.getD a 0)) k).getD a 0 - xs.getD a 0 := IntWalk.i64_in _ (by omega)
        rw [← hw] at b1 b2
        have hpl2 : ((places (bsSh xs a (ps.getD a 0)) k).set a (IntKind.i64.wrap ((places (bsSh xs a (ps.getD a 0)) k).getD a 0 - xs.getD a 0))).length = ps.length := by rw [List.length_set]; omega
        conv => whnf
        repeat' (first
          | (refine plan_in (id := 6) [0, 1, 2, 3, 4, 5, 6, 7, 8, 9] (by kernel_rfl) (by kernel_rfl) ?_; conv => whnf)
          | (refine plan_in (id := 7) [0, 1, 2, 3, 4, 5, 6, 7, 8, 9, 10, 11, 12, 13] (by kernel_rfl) (by kernel_rfl) ?_; conv => whnf)
          | (refine plan_in (id := 8) [0, 1, 2, 3, 4, 5, 6, 7, 8, 9, 10, 11, 12, 13] (by kernel_rfl) (by kernel_rfl) ?_; conv => whnf)
          | (refine plan_in (id := 9) [0, 1, 2, 3, 4, 5, 6, 7, 8, 9, 10, 11, 12, 13] (by kernel_rfl) (by kernel_rfl) ?_; conv => whnf)
          | (refine aIf_t ?_; conv => whnf)
          | (refine aIf_f ?_; conv => whnf)
          | (refine fun (_ : _ ≤ maxLen) => ?_; conv => whnf)
          | (refine get_nat0 (by omega) ?_; conv => whnf)
          | (refine get_int0 (by omega) ?_; conv => whnf)
          | (refine get_nat (by omega) ?_; conv => whnf)
          | (refine get_int (by omega) ?_; conv => whnf)
          | (refine aGet_in rfl ?_; conv => whnf)
          | (refine And.intro (And.intro (Int.le_refl _) (And.intro (by kernel_rfl) (And.intro rfl (by kernel_rfl)))) (And.intro (And.intro (by omega) (And.intro (bytes_le (b := 8) rfl (by omega)) (by omega))) ?_); conv => whnf)
          | (refine And.intro (by omega) ?_; conv => whnf)
          | (refine load_same ?_; conv => whnf)
          | (refine And.intro (by rw [List.length_map]; omega) ?_; conv => whnf)
          | (refine And.intro rfl (And.intro (List.cons_ne_nil _ _) ?_); conv => whnf)
          | (refine And.intro (Nat.le_of_ble_eq_true rfl) ?_; conv => whnf)
          | (refine callG_t ?_; conv => whnf)
          | (refine And.intro (And.intro (Int.le_refl _) (And.intro (by kernel_rfl) (And.intro rfl (by kernel_rfl)))) (And.intro (And.intro (by omega) (And.intro (bytes_le (b := 24) rfl (by omega)) (by omega))) ?_); conv => whnf)
          | (refine And.intro (And.intro (Int.le_refl _) (And.intro (by kernel_rfl) (And.intro rfl (by kernel_rfl)))) (And.intro (And.intro (by omega) (And.intro (bytes_le (b := 48) rfl (by omega)) (by omega))) ?_); conv => whnf)
          | (refine And.intro rfl (And.intro rfl (And.intro (by rw [fillC_length (by omega)]; omega) ?_)); conv => whnf)
          | (refine And.intro rfl (And.intro rfl (And.intro (by rw [fillF_length (ndO_length _) rfl (by omega)]; omega) ?_)); conv => whnf)
          | (refine And.intro rfl (And.intro rfl (And.intro (by rw [fillF_length (tnO_length _) rfl (by omega)]; omega) ?_)); conv => whnf)
          | (refine set_fillC (by omega) (by omega) ?_; conv => whnf)
          | (refine set_fillF (ndO_length _) (by omega) rfl ?_; conv => whnf)
          | (refine set_fillF (tnO_length _) (by omega) rfl ?_; conv => whnf)
          | (refine And.intro (ond_fit (by omega) (Nat.le_of_ble_eq_true rfl)) ?_; conv => whnf)
          | (refine set_ond (by omega) (Nat.le_of_ble_eq_true rfl) ⟨_, rfl⟩ (fun _ _ _ _ => ?_); conv => whnf)
          | (refine get_oi_n (by omega) ?_; conv => whnf)
          | (refine get_ond_n (by omega) rfl ?_; conv => whnf)
          | (refine get_otn_n (by omega) rfl ?_; conv => whnf)
          | (refine takeN_in ?_; conv => whnf)
          | (refine And.intro (pureL_ints _ _) ?_; conv => whnf)
          | (refine And.intro (pureL_take _ _ _) ?_; conv => whnf)
          | (refine And.intro (pureL_cut _ _ _ _) ?_; conv => whnf)
          | (refine cut_ints ?_; conv => whnf)
          | (refine cut_marks ?_; conv => whnf)
          | (refine cut_all rfl (scalL_ints _ _) ?_; conv => whnf)
          | (refine cut_all (by simp only [List.length_map]; omega) (scalL_ints _ _) ?_; conv => whnf)
          | (refine l1Count_call ?_; conv => whnf)
          | (refine l1Index_call (by assumption) ?_; conv => whnf)
          | (refine append_int rfl rfl (by first | rfl | (simp only [List.length_take, turned_length]; omega)) (by omega) (Nat.le_of_ble_eq_true rfl) ?_; conv => whnf)
          | (refine l1Place_call (by assumption) ?_; conv => whnf)
          | (refine l1Index_n (by omega) (by omega) ?_; conv => whnf)
          | (refine And.intro rfl (And.intro rfl (And.intro (by first | omega | (rw [List.length_map]; omega)) ?_)); conv => whnf)
          | (refine set_nat ?_ (by omega); conv => whnf)
          | (refine set_int ?_ (by omega); conv => whnf)
          | (refine set_bool ?_ (by omega); conv => whnf)
          | (refine set_force ?_; conv => whnf)
          | (refine get_bool0 (by omega) ?_; conv => whnf)
          | (refine And.intro (And.intro (Int.le_refl _) (And.intro (by kernel_rfl) (And.intro rfl (by kernel_rfl)))) (And.intro (And.intro (by omega) (And.intro (bytes_le (b := 1) rfl (by omega)) (by omega))) ?_); conv => whnf)
          | (refine And.intro (And.intro (by kernel_rfl) (And.intro rfl (Nat.le_of_ble_eq_true rfl))) ?_; conv => whnf)
          | (refine And.intro (And.intro (by kernel_rfl) (by kernel_rfl)) ?_; conv => whnf)
          | (refine And.intro (by kernel_rfl) ?_; conv => whnf)
          | (refine aIf_tt (by assumption) ?_; conv => whnf)
          | (refine aIf_ff (by assumption) ?_; conv => whnf)
          | refine aIf_eqt ?_
          | refine aIf_eqf ?_
          | refine aIf_not ?_
          | (refine aIf_bself ?_; conv => whnf)
          | (refine aIf_beself ?_; conv => whnf)
          | (refine aIf_iself ?_; conv => whnf)
          | (refine aIf_decself ?_; conv => whnf)
          | (refine aIf_dec (fun _ => ?_) (fun _ => ?_) <;> conv => whnf)
          | (refine aIf_beq (fun _ => ?_) (fun _ => ?_) <;> conv => whnf)
          | (refine aIf_bne (fun _ => ?_) (fun _ => ?_) <;> conv => whnf)
          | (refine aIf_bbne (fun _ => ?_) (fun _ => ?_) <;> conv => whnf)
          | (refine aIf_bbeq (fun _ => ?_) (fun _ => ?_) <;> conv => whnf)
          | (refine aIf_in (fun _ => ?_) (fun _ => ?_) <;> conv => whnf))
        all_goals (first | (exfalso; omega) | skip)
        refine next_u (k + 1, ws ++ [qs.getD (idxTo ps ((places (bsSh xs a (ps.getD a 0)) k).set a (IntKind.i64.wrap ((places (bsSh xs a (ps.getD a 0)) k).getD a 0 - xs.getD a 0))) ps.length).toNat 0]) (show 64 - (k + 1) < 64 - k by omega) ⟨(by omega : ((k + 1 : Nat) : Int) ≤ _), by rw [bsTo_succ, hws, b2]⟩ ?_
        conv => whnf
        repeat' (first
          | exact trivial
          | exact rfl
          | exact pureL_ints _ _
          | exact pureL_bools _
          | exact Or.inl (And.intro rfl rfl)
          | exact Or.inl (And.intro (pureL_box _ _) rfl)
          | exact le_ints rfl
          | exact le_ints (rep_ints _ _)
          | exact le_bools rfl
          | exact le_bools (rep_bools _)
          | exact Or.inl (And.intro (pureL_pair _ _ _ _ _ _) rfl)
          | refine le_ints ?_
          | refine Or.inr ?_
          | refine And.intro ?_ ?_
          | exact Nat.le_of_ble_eq_true rfl
          | exact Nat.zero_le _
          | exact int_eq (by assumption)
          | exact int_eq (by omega)
          | exact int_eq (Int.add_zero _).symm
          | exact List.length_append
          | exact int_eq (by rw [IntWalk.i64_in _ (by omega)] <;> omega))
    · have hke : k = (cntTo (bsSh xs a (ps.getD a 0)) (bsSh xs a (ps.getD a 0)).length).toNat := by omega
      have hL : bsL xs zs qs a (ps.getD a 0) = ws := by rw [hws, hke]; rfl
      conv => whnf
      repeat' (first
        | (refine plan_in (id := 6) [0, 1, 2, 3, 4, 5, 6, 7, 8, 9] (by kernel_rfl) (by kernel_rfl) ?_; conv => whnf)
        | (refine plan_in (id := 7) [0, 1, 2, 3, 4, 5, 6, 7, 8, 9, 10, 11, 12, 13] (by kernel_rfl) (by kernel_rfl) ?_; conv => whnf)
        | (refine plan_in (id := 8) [0, 1, 2, 3, 4, 5, 6, 7, 8, 9, 10, 11, 12, 13] (by kernel_rfl) (by kernel_rfl) ?_; conv => whnf)
        | (refine plan_in (id := 9) [0, 1, 2, 3, 4, 5, 6, 7, 8, 9, 10, 11, 12, 13] (by kernel_rfl) (by kernel_rfl) ?_; conv => whnf)
        | (refine aIf_t ?_; conv => whnf)
        | (refine aIf_f ?_; conv => whnf)
        | (refine fun (_ : _ ≤ maxLen) => ?_; conv => whnf)
        | (refine get_nat0 (by omega) ?_; conv => whnf)
        | (refine get_int0 (by omega) ?_; conv => whnf)
        | (refine get_nat (by omega) ?_; conv => whnf)
        | (refine get_int (by omega) ?_; conv => whnf)
        | (refine aGet_in rfl ?_; conv => whnf)
        | (refine And.intro (And.intro (Int.le_refl _) (And.intro (by kernel_rfl) (And.intro rfl (by kernel_rfl)))) (And.intro (And.intro (by omega) (And.intro (bytes_le (b := 8) rfl (by omega)) (by omega))) ?_); conv => whnf)
        | (refine And.intro (by omega) ?_; conv => whnf)
        | (refine load_same ?_; conv => whnf)
        | (refine And.intro (by rw [List.length_map]; omega) ?_; conv => whnf)
        | (refine And.intro rfl (And.intro (List.cons_ne_nil _ _) ?_); conv => whnf)
        | (refine And.intro (Nat.le_of_ble_eq_true rfl) ?_; conv => whnf)
        | (refine callG_t ?_; conv => whnf)
        | (refine And.intro (And.intro (Int.le_refl _) (And.intro (by kernel_rfl) (And.intro rfl (by kernel_rfl)))) (And.intro (And.intro (by omega) (And.intro (bytes_le (b := 24) rfl (by omega)) (by omega))) ?_); conv => whnf)
        | (refine And.intro (And.intro (Int.le_refl _) (And.intro (by kernel_rfl) (And.intro rfl (by kernel_rfl)))) (And.intro (And.intro (by omega) (And.intro (bytes_le (b := 48) rfl (by omega)) (by omega))) ?_); conv => whnf)
        | (refine And.intro rfl (And.intro rfl (And.intro (by rw [fillC_length (by omega)]; omega) ?_)); conv => whnf)
        | (refine And.intro rfl (And.intro rfl (And.intro (by rw [fillF_length (ndO_length _) rfl (by omega)]; omega) ?_)); conv => whnf)
        | (refine And.intro rfl (And.intro rfl (And.intro (by rw [fillF_length (tnO_length _) rfl (by omega)]; omega) ?_)); conv => whnf)
        | (refine set_fillC (by omega) (by omega) ?_; conv => whnf)
        | (refine set_fillF (ndO_length _) (by omega) rfl ?_; conv => whnf)
        | (refine set_fillF (tnO_length _) (by omega) rfl ?_; conv => whnf)
        | (refine And.intro (ond_fit (by omega) (Nat.le_of_ble_eq_true rfl)) ?_; conv => whnf)
        | (refine set_ond (by omega) (Nat.le_of_ble_eq_true rfl) ⟨_, rfl⟩ (fun _ _ _ _ => ?_); conv => whnf)
        | (refine get_oi_n (by omega) ?_; conv => whnf)
        | (refine get_ond_n (by omega) rfl ?_; conv => whnf)
        | (refine get_otn_n (by omega) rfl ?_; conv => whnf)
        | (refine takeN_in ?_; conv => whnf)
        | (refine And.intro (pureL_ints _ _) ?_; conv => whnf)
        | (refine And.intro (pureL_take _ _ _) ?_; conv => whnf)
        | (refine And.intro (pureL_cut _ _ _ _) ?_; conv => whnf)
        | (refine cut_ints ?_; conv => whnf)
        | (refine cut_marks ?_; conv => whnf)
        | (refine cut_all rfl (scalL_ints _ _) ?_; conv => whnf)
        | (refine cut_all (by simp only [List.length_map]; omega) (scalL_ints _ _) ?_; conv => whnf)
        | (refine l1Count_call ?_; conv => whnf)
        | (refine l1Index_call (by assumption) ?_; conv => whnf)
        | (refine append_int rfl rfl (by first | rfl | (simp only [List.length_take, turned_length]; omega)) (by omega) (Nat.le_of_ble_eq_true rfl) ?_; conv => whnf)
        | (refine l1Place_call (by assumption) ?_; conv => whnf)
        | (refine l1Index_n (by omega) (by omega) ?_; conv => whnf)
        | (refine And.intro rfl (And.intro rfl (And.intro (by first | omega | (rw [List.length_map]; omega)) ?_)); conv => whnf)
        | (refine set_nat ?_ (by omega); conv => whnf)
        | (refine set_int ?_ (by omega); conv => whnf)
        | (refine set_bool ?_ (by omega); conv => whnf)
        | (refine set_force ?_; conv => whnf)
        | (refine get_bool0 (by omega) ?_; conv => whnf)
        | (refine And.intro (And.intro (Int.le_refl _) (And.intro (by kernel_rfl) (And.intro rfl (by kernel_rfl)))) (And.intro (And.intro (by omega) (And.intro (bytes_le (b := 1) rfl (by omega)) (by omega))) ?_); conv => whnf)
        | (refine And.intro (And.intro (by kernel_rfl) (And.intro rfl (Nat.le_of_ble_eq_true rfl))) ?_; conv => whnf)
        | (refine And.intro (And.intro (by kernel_rfl) (by kernel_rfl)) ?_; conv => whnf)
        | (refine And.intro (by kernel_rfl) ?_; conv => whnf)
        | (refine aIf_tt (by assumption) ?_; conv => whnf)
        | (refine aIf_ff (by assumption) ?_; conv => whnf)
        | refine aIf_eqt ?_
        | refine aIf_eqf ?_
        | refine aIf_not ?_
        | (refine aIf_bself ?_; conv => whnf)
        | (refine aIf_beself ?_; conv => whnf)
        | (refine aIf_iself ?_; conv => whnf)
        | (refine aIf_decself ?_; conv => whnf)
        | (refine aIf_dec (fun _ => ?_) (fun _ => ?_) <;> conv => whnf)
        | (refine aIf_beq (fun _ => ?_) (fun _ => ?_) <;> conv => whnf)
        | (refine aIf_bne (fun _ => ?_) (fun _ => ?_) <;> conv => whnf)
        | (refine aIf_bbne (fun _ => ?_) (fun _ => ?_) <;> conv => whnf)
        | (refine aIf_bbeq (fun _ => ?_) (fun _ => ?_) <;> conv => whnf)
        | (refine aIf_in (fun _ => ?_) (fun _ => ?_) <;> conv => whnf))
      all_goals (first | (exfalso; omega) | skip)
      exact retB1 rfl hL rfl rfl
end Go.Proofs.Ytegoncendpboiaa
