import Derived.Test.YtjmdhfjemaoebaaGreatM01x25
import Derived.Test.YtjmdhfjemaoebaaGreatM01x12
import Derived.Test.YtjmdhfjemaoebaaGreatM01x19
import Derived.Test.YtjmdhfjemaoebaaGreatM01x10
import Derived.Handed
import Derived.JoinedOf
import Derived.Test.YtjmdhfjemaoebaaGreatRows
import Derived.Test.YtjmdhfjemaoebaaGreatM01x11
namespace Go.Proofs.YtjmdhfjemaoebaaGreat
set_option maxRecDepth 20000
open Go.RowKit Go.Am
attribute [local irreducible] aPlan aGet aIf aLoop aCall RetB NextB CallB CallG aCut aSet aAppend
def sL2Beside : CSpec :=
  { ι := Nat × List Int × Nat × List Int × Nat × List Int × Nat × List Int × Nat, inout := [false, false, false, true],
    args := fun | (c, xs, d, zs, e, ps, f, qs, a) => [.agg [.sl c xs.length (xs.map (.int .i64)), .sl d zs.length (zs.map (.int .i64))], .agg [.sl e ps.length (ps.map (.int .i64)), .sl f qs.length (qs.map (.int .i64))], .int .i64 a, .ref 0 0 0 (bsSh xs a (ps.getD a 0)).length],
    ins := fun | (_, xs, _, _, _, ps, _, _, a) => [⟨0, 3, 1, (bsSh xs a (ps.getD a 0)).map (.int .i64)⟩],
    pre := fun | (_, xs, _, zs, _, ps, _, qs, a) => bsP xs zs ps qs a,
    post := fun | (_, xs, _, zs, _, ps, _, qs, a), r, ic, news => r = .agg [.ref 0 0 0 (bsSh xs a (ps.getD a 0)).length, .ref 1 0 0 (bsL xs zs qs a (ps.getD a 0)).length] ∧ ic = [(bsSh xs a (ps.getD a 0)).map (.int .i64)] ∧ news = [rowL 3 (bsL xs zs qs a (ps.getD a 0))] }
theorem retB1 {env : List AV} {ctr : Nat} {t : TypeId} {sh ws L : List Int} {v0 n n' m τ v : Nat} {rest : List Row} (h3 : rest[τ]? = some ⟨v, t, 1, ws.map (.int .i64)⟩) (hL : L = ws) (hn : n = n') (hm : m = ws.length) :
    RetB ⟨env, ⟨v0, t, 1, sh.map (.int .i64)⟩ :: rest, ctr, 1⟩ [⟨0, t, 1, sh.map (.int .i64)⟩] (fun r ic news => r = .agg [.ref 0 0 0 n', .ref 1 0 0 L.length] ∧ ic = [sh.map (.int .i64)] ∧ news = [rowL t L]) (.agg [.ref 0 v0 0 n, .ref (τ + 1) v 0 m]) := by
  subst hL; subst hn; subst hm
  refine RetB1.ret ⟨[τ + 1], [⟨0, t, 1, sh.map (.int .i64)⟩, rowL t L], _, [sh.map (.int .i64)], [rowL t L], (show ([0, τ + 1] : List Nat).Nodup by simp), ?_, ?_, rfl, rfl, rfl, rfl, rfl⟩
  · show insOf _ [0, τ + 1] [0, τ + 1] = _
    simp [insOf, h3, protL_ren (protL_ints .i64 sh), protL_ren (protL_ints .i64 L)]
  · show AV.ren _ [0, τ + 1] _ = _
    simp [AV.ren, renL, h3, List.idxOf, List.findIdx_cons]
set_option maxHeartbeats 8000000 in
theorem l2Beside_sound : Sound Tryz.prog 120 sL2Beside := by
  refine sound_of Tryz.func120 rfl (enters_of Tryz.func120 (by kernel_rfl) (by kernel_rfl)) ?_
  rintro ⟨c, xs, d, zs, e, ps, f, qs, a⟩ hpre
  have hpre : bsP xs zs ps qs a := hpre
  have hP := hpre
  obtain ⟨ht, hu, hi, he, hle⟩ := hpre
  rw [Int.toNat_natCast] at he hle
  have ha : a < xs.length := by omega
  have hpl : ps.length = xs.length := by rw [he]; simp
  obtain ⟨F, e1, e2, -, hp⟩ := bs_all ht hu ha he
  obtain ⟨g1, g2, g3⟩ := F.good hle
  have hcnt := cnt64 g1 (Nat.le_refl _)
  have hs := ((tensorOk_iff _ _).1 ht).1
  have hsz := size_in hs ha
  have hx3 := ((shapeOk_iff _).1 hs).1
  have hshl := bsSh_length xs a (ps.getD a 0)
  have hmax : maxLen = 9223372036854775807 := rfl
  conv => whnf
  dsimp only
  repeat' (first
    | ((first | refine plan_in (id := 6) [0, 1, 2, 3, 4, 5, 6, 7, 8, 9] (by kernel_rfl) (by kernel_rfl) ?_ | refine plan_in (id := 7) [0, 1, 2, 3, 4, 5, 6, 7, 8, 9, 10, 11, 12, 13] (by kernel_rfl) (by kernel_rfl) ?_ | refine plan_in (id := 8) [0, 1, 2, 3, 4, 5, 6, 7, 8, 9, 10, 11, 12, 13] (by kernel_rfl) (by kernel_rfl) ?_ | refine plan_in (id := 9) [0, 1, 2, 3, 4, 5, 6, 7, 8, 9, 10, 11, 12, 13] (by kernel_rfl) (by kernel_rfl) ?_ | refine And.intro rfl (And.intro (List.cons_ne_nil _ _) ?_) | refine And.intro (Nat.le_of_ble_eq_true rfl) ?_ | refine append_same ?_ | refine set_force ?_ | refine And.intro (by kernel_rfl) ?_); conv => whnf))
  refine loop_u (ι := Nat × List Int) [false, false, true, true, true, true, false, false, true, true, true, false, false, false, false, false, false, false, false, false, false, false, false, false, false, false, false, false, false, false, false, false, false, false, false, false, false, false, false, false, false, false, false, false, false, false, false, false, false, false, false, false, false, false, false, false, false, false, false, false, false, false, false, false, false, false, false, false, false, false, false, false, false] (fun | (k, _) => [(10, .int .i64 k)]) (fun | (_, ws) => [(6, ws.map (.int .i64)), (9, [.ref 0 0 0 (bsSh xs a (ps.getD a 0)).length, .ref 6 6 0 ws.length])]) (fun | (k, ws) => (k : Int) ≤ cntTo (bsSh xs a (ps.getD a 0)) (bsSh xs a (ps.getD a 0)).length ∧ ws = bsTo xs zs qs a (ps.getD a 0) k) (fun x => 64 - x.1) ((0, [])) ⟨by omega, rfl⟩ ?_ ?_
  · conv => whnf
    repeat' (first
      | exact trivial | exact rfl
      | exact Or.inl (And.intro rfl rfl) | exact le_ints rfl
      | exact Or.inl (And.intro (pureL_pair _ _ _ _ _ _) rfl) | refine Or.inr ?_
      | refine And.intro ?_ ?_ | exact Nat.le_of_ble_eq_true rfl)
  · rintro ⟨k, ws⟩ ⟨hk, hws⟩
    have hk : (k : Int) ≤ cntTo (bsSh xs a (ps.getD a 0)) (bsSh xs a (ps.getD a 0)).length := hk
    have hws : ws = bsTo xs zs qs a (ps.getD a 0) k := hws
    have hwl : ws.length = k := by rw [hws]; exact bsTo_length _ _ _ _ _ _
    have hpl1 : (places (bsSh xs a (ps.getD a 0)) k).length = xs.length := (places_length _ _).trans hshl
    by_cases hlt : (k : Int) < cntTo (bsSh xs a (ps.getD a 0)) (bsSh xs a (ps.getD a 0)).length
    · by_cases hb : (places (bsSh xs a (ps.getD a 0)) k).getD a 0 < xs.getD a 0
      · obtain ⟨b1, b2⟩ := bsRef_t hP hlt hb
        conv => whnf
        repeat' (first
          | ((first | refine plan_in (id := 6) [0, 1, 2, 3, 4, 5, 6, 7, 8, 9] (by kernel_rfl) (by kernel_rfl) ?_ | refine plan_in (id := 7) [0, 1, 2, 3, 4, 5, 6, 7, 8, 9, 10, 11, 12, 13] (by kernel_rfl) (by kernel_rfl) ?_ | refine plan_in (id := 8) [0, 1, 2, 3, 4, 5, 6, 7, 8, 9, 10, 11, 12, 13] (by kernel_rfl) (by kernel_rfl) ?_ | refine plan_in (id := 9) [0, 1, 2, 3, 4, 5, 6, 7, 8, 9, 10, 11, 12, 13] (by kernel_rfl) (by kernel_rfl) ?_ | refine get_nat0 (by omega) ?_ | refine get_nat (by omega) ?_ | refine get_int (by omega) ?_ | refine aGet_in rfl ?_ | refine And.intro (by omega) ?_ | refine load_same ?_ | refine And.intro (Nat.le_of_ble_eq_true rfl) ?_ | refine callG_t ?_ | refine append_same ?_ | refine takeN_in ?_ | refine And.intro (pureL_ints _ _) ?_ | refine cut_ints ?_ | refine cut_all (by simp only [List.length_map]; omega) (scalL_ints _ _) ?_ | refine l1Count_call ?_ | refine l1Index_call (by assumption) ?_ | refine append_int rfl rfl (by first | rfl | (simp only [List.length_take, turned_length]; omega)) (by omega) (Nat.le_of_ble_eq_true rfl) ?_ | refine l1Place_call (by assumption) ?_ | refine l1Index_n (by omega) (by omega) ?_ | refine set_nat ?_ (by omega) | refine set_force ?_ | refine And.intro (And.intro (by kernel_rfl) (And.intro rfl (Nat.le_of_ble_eq_true rfl))) ?_ | refine And.intro (by kernel_rfl) ?_); conv => whnf) | (refine aIf_dec (fun _ => ?_) (fun _ => ?_) <;> conv => whnf))
        all_goals (first | (exfalso; omega) | skip)
        refine next_u (k + 1, ws ++ [zs.getD (idxTo xs (places (bsSh xs a (ps.getD a 0)) k) xs.length).toNat 0]) (show 64 - (k + 1) < 64 - k by omega) ⟨(by omega : ((k + 1 : Nat) : Int) ≤ _), by rw [bsTo_succ, hws, b2]⟩ ?_
        conv => whnf
        repeat' (first
          | exact trivial | exact rfl
          | exact Or.inl (And.intro rfl rfl) | exact le_ints rfl
          | exact Or.inl (And.intro (pureL_pair _ _ _ _ _ _) rfl) | refine Or.inr ?_
          | refine And.intro ?_ ?_ | exact Nat.le_of_ble_eq_true rfl
          | exact List.length_append | exact int_eq (by rw [IntWalk.i64_in _ (by omega)] <;> omega))
      · obtain ⟨b1, b2⟩ := bsRef_f hP hlt hb
        have hpin := places_in g1 ⟨(by omega : (0 : Int) ≤ k), hlt⟩ (show a < (bsSh xs a (ps.getD a 0)).length by omega)
        have hw : IntKind.i64.wrap ((places (bsSh xs a (ps.getD a 0)) k).getD a 0 - xs.getD a 0) = (places (bsSh xs a (ps.getD a 0)) k).getD a 0 - xs.getD a 0 := IntWalk.i64_in _ (by omega)
        rw [← hw] at b1 b2
        have hpl2 : ((places (bsSh xs a (ps.getD a 0)) k).set a (IntKind.i64.wrap ((places (bsSh xs a (ps.getD a 0)) k).getD a 0 - xs.getD a 0))).length = ps.length := by rw [List.length_set]; omega
        conv => whnf
        repeat' (first
          | ((first | refine plan_in (id := 6) [0, 1, 2, 3, 4, 5, 6, 7, 8, 9] (by kernel_rfl) (by kernel_rfl) ?_ | refine plan_in (id := 7) [0, 1, 2, 3, 4, 5, 6, 7, 8, 9, 10, 11, 12, 13] (by kernel_rfl) (by kernel_rfl) ?_ | refine plan_in (id := 8) [0, 1, 2, 3, 4, 5, 6, 7, 8, 9, 10, 11, 12, 13] (by kernel_rfl) (by kernel_rfl) ?_ | refine plan_in (id := 9) [0, 1, 2, 3, 4, 5, 6, 7, 8, 9, 10, 11, 12, 13] (by kernel_rfl) (by kernel_rfl) ?_ | refine get_nat0 (by omega) ?_ | refine get_nat (by omega) ?_ | refine get_int (by omega) ?_ | refine aGet_in rfl ?_ | refine And.intro (by omega) ?_ | refine load_same ?_ | refine And.intro (Nat.le_of_ble_eq_true rfl) ?_ | refine callG_t ?_ | refine append_same ?_ | refine takeN_in ?_ | refine And.intro (pureL_ints _ _) ?_ | refine cut_ints ?_ | refine cut_all (by simp only [List.length_map]; omega) (scalL_ints _ _) ?_ | refine l1Count_call ?_ | refine l1Index_call (by assumption) ?_ | refine append_int rfl rfl (by first | rfl | (simp only [List.length_take, turned_length]; omega)) (by omega) (Nat.le_of_ble_eq_true rfl) ?_ | refine l1Place_call (by assumption) ?_ | refine l1Index_n (by omega) (by omega) ?_ | refine And.intro rfl (And.intro rfl (And.intro (by first | omega | (rw [List.length_map]; omega)) ?_)) | refine set_nat ?_ (by omega) | refine set_force ?_ | refine And.intro (And.intro (by kernel_rfl) (And.intro rfl (Nat.le_of_ble_eq_true rfl))) ?_ | refine And.intro (by kernel_rfl) ?_); conv => whnf) | (refine aIf_dec (fun _ => ?_) (fun _ => ?_) <;> conv => whnf))
        all_goals (first | (exfalso; omega) | skip)
        refine next_u (k + 1, ws ++ [qs.getD (idxTo ps ((places (bsSh xs a (ps.getD a 0)) k).set a (IntKind.i64.wrap ((places (bsSh xs a (ps.getD a 0)) k).getD a 0 - xs.getD a 0))) ps.length).toNat 0]) (show 64 - (k + 1) < 64 - k by omega) ⟨(by omega : ((k + 1 : Nat) : Int) ≤ _), by rw [bsTo_succ, hws, b2]⟩ ?_
        conv => whnf
        repeat' (first
          | exact trivial | exact rfl
          | exact Or.inl (And.intro rfl rfl) | exact le_ints rfl
          | exact Or.inl (And.intro (pureL_pair _ _ _ _ _ _) rfl) | refine Or.inr ?_
          | refine And.intro ?_ ?_ | exact Nat.le_of_ble_eq_true rfl
          | exact List.length_append | exact int_eq (by rw [IntWalk.i64_in _ (by omega)] <;> omega))
    · have hke : k = (cntTo (bsSh xs a (ps.getD a 0)) (bsSh xs a (ps.getD a 0)).length).toNat := by omega
      have hL : bsL xs zs qs a (ps.getD a 0) = ws := by rw [hws, hke]; rfl
      conv => whnf
      repeat' (first
        | ((first | refine plan_in (id := 6) [0, 1, 2, 3, 4, 5, 6, 7, 8, 9] (by kernel_rfl) (by kernel_rfl) ?_ | refine plan_in (id := 7) [0, 1, 2, 3, 4, 5, 6, 7, 8, 9, 10, 11, 12, 13] (by kernel_rfl) (by kernel_rfl) ?_ | refine plan_in (id := 8) [0, 1, 2, 3, 4, 5, 6, 7, 8, 9, 10, 11, 12, 13] (by kernel_rfl) (by kernel_rfl) ?_ | refine plan_in (id := 9) [0, 1, 2, 3, 4, 5, 6, 7, 8, 9, 10, 11, 12, 13] (by kernel_rfl) (by kernel_rfl) ?_ | refine get_nat0 (by omega) ?_ | refine get_nat (by omega) ?_ | refine aGet_in rfl ?_ | refine And.intro (by omega) ?_ | refine load_same ?_ | refine And.intro (Nat.le_of_ble_eq_true rfl) ?_ | refine callG_t ?_ | refine append_same ?_ | refine takeN_in ?_ | refine cut_ints ?_ | refine cut_all (by simp only [List.length_map]; omega) (scalL_ints _ _) ?_ | refine l1Count_call ?_ | refine l1Index_call (by assumption) ?_ | refine append_int rfl rfl (by first | rfl | (simp only [List.length_take, turned_length]; omega)) (by omega) (Nat.le_of_ble_eq_true rfl) ?_ | refine l1Place_call (by assumption) ?_ | refine l1Index_n (by omega) (by omega) ?_ | refine set_nat ?_ (by omega) | refine set_force ?_ | refine And.intro (by kernel_rfl) ?_); conv => whnf) | (refine aIf_dec (fun _ => ?_) (fun _ => ?_) <;> conv => whnf))
      all_goals (first | (exfalso; omega) | skip)
      exact retB1 rfl hL rfl rfl
end Go.Proofs.YtjmdhfjemaoebaaGreat
namespace Go.Proofs.YtjmdhfjemaoebaaGreat
set_option maxRecDepth 20000
open Go.RowKit Go.Am
theorem l2Beside_call {c d e f : Nat} {xs zs ps qs : List Int} {a : Nat} {env : List AV} {rows : List Row} {ctr low τ ver n : Nat} {k : AV → St → Prop} (hpre : bsP xs zs ps qs a) (hr : rows[τ]? = some ⟨ver, 3, 1, (bsSh xs a (ps.getD a 0)).map (.int .i64)⟩) (hn : n = (bsSh xs a (ps.getD a 0)).length)
    (hk : k (.agg [.ref τ ver 0 n, .ref rows.length ctr 0 (bsL xs zs qs a (ps.getD a 0)).length]) ⟨env, setRows rows [τ] [(bsSh xs a (ps.getD a 0)).map (.int .i64)] ++ [⟨ctr, 3, 1, (bsL xs zs qs a (ps.getD a 0)).map (.int .i64)⟩], ctr + 1, low⟩) :
    CallG Tryz.prog 120 ⟨env, rows, ctr, low⟩ [.agg [.sl c xs.length (xs.map (.int .i64)), .sl d zs.length (zs.map (.int .i64))], .agg [.sl e ps.length (ps.map (.int .i64)), .sl f qs.length (qs.map (.int .i64))], .int .i64 a, .ref τ ver 0 n] k := by
  subst hn
  refine .inr ⟨[τ], _, l2Beside_sound, [.agg [.sl c xs.length (xs.map (.int .i64)), .sl d zs.length (zs.map (.int .i64))], .agg [.sl e ps.length (ps.map (.int .i64)), .sl f qs.length (qs.map (.int .i64))], .int .i64 a, .ref 0 0 0 (bsSh xs a (ps.getD a 0)).length], [⟨0, 3, 1, (bsSh xs a (ps.getD a 0)).map (.int .i64)⟩], by simp, ?_, ?_, (c, xs, d, zs, e, ps, f, qs, a), rfl, rfl, hpre, ?_⟩
  · have e1 : ∀ (c d : Nat) (us vs : List Int), callArg ⟨env, rows, ctr, low⟩ [τ] false (.agg [.sl c us.length (us.map (.int .i64)), .sl d vs.length (vs.map (.int .i64))]) = some (.agg [.sl c us.length (us.map (.int .i64)), .sl d vs.length (vs.map (.int .i64))]) := fun c d us vs =>
      tree_agg (mapM_next (tree_sl (pureL_ints _ _)) (mapM_next (tree_sl (pureL_ints _ _)) rfl))
    have e3 : callArg ⟨env, rows, ctr, low⟩ [τ] false (.int .i64 (a : Int)) = some (.int .i64 a) := rfl
    have e4 : callArg ⟨env, rows, ctr, low⟩ [τ] true (.ref τ ver 0 (bsSh xs a (ps.getD a 0)).length) = some (.ref 0 0 0 (bsSh xs a (ps.getD a 0)).length) := by
      simp [callArg, AV.ren, hr]
    show (callArg _ [τ] false _).bind _ = _
    rw [e1]
    show ((callArg _ [τ] false _).bind _).map _ = _
    rw [e1]
    show (((callArg _ [τ] false _).bind _).map _).map _ = _
    rw [e3]
    show ((((callArg _ [τ] true _).bind _).map _).map _).map _ = _
    rw [e4]
    rfl
  · simp [insOf, hr, protL_ren (protL_ints .i64 (bsSh xs a (ps.getD a 0))), -List.getD_eq_getElem?_getD]
  · rintro r ic news ⟨rfl, rfl, rfl⟩ _
    have ev : verOf ⟨env, rows, ctr, low⟩ τ = ver := by simp [verOf, hr]
    have eb : (AV.agg [.ref 0 0 0 (bsSh xs a (ps.getD a 0)).length, .ref 1 0 0 (bsL xs zs qs a (ps.getD a 0)).length]).back ⟨env, rows, ctr, low⟩ [τ] = .agg [.ref τ ver 0 (bsSh xs a (ps.getD a 0)).length, .ref rows.length ctr 0 (bsL xs zs qs a (ps.getD a 0)).length] := by
      simp [AV.back, Go.Am.backL, backT, backV, -List.getD_eq_getElem?_getD]
      exact ⟨rfl, ev⟩
    rw [eb]
    show k _ ⟨env, setRows rows [τ] [Go.Am.backL _ [τ] ((bsSh xs a (ps.getD a 0)).map (.int .i64))] ++ (St.news _ [τ] [⟨0, 3, 1, (bsL xs zs qs a (ps.getD a 0)).map (.int .i64)⟩]), ctr + 1, low⟩
    rw [protL_back (protL_ints _ _), news_prot (protL_ints _ _)]
    exact hk
theorem l2Beside_callL {c d e f : Nat} {xs zs ps qs L : List Int} {a : Nat} {env : List AV} {rows : List Row} {ctr low τ ver n : Nat} {k : AV → St → Prop} (hpre : bsP xs zs ps qs a) (hL : L = bsSh xs a (ps.getD a 0)) (hr : rows[τ]? = some ⟨ver, 3, 1, L.map (.int .i64)⟩) (hn : n = L.length)
    (hk : k (.agg [.ref τ ver 0 n, .ref rows.length ctr 0 (bsL xs zs qs a (ps.getD a 0)).length]) ⟨env, setRows rows [τ] [L.map (.int .i64)] ++ [⟨ctr, 3, 1, (bsL xs zs qs a (ps.getD a 0)).map (.int .i64)⟩], ctr + 1, low⟩) :
    CallG Tryz.prog 120 ⟨env, rows, ctr, low⟩ [.agg [.sl c xs.length (xs.map (.int .i64)), .sl d zs.length (zs.map (.int .i64))], .agg [.sl e ps.length (ps.map (.int .i64)), .sl f qs.length (qs.map (.int .i64))], .int .i64 a, .ref τ ver 0 n] k := by
  subst hL; exact l2Beside_call hpre hr hn hk
attribute [local irreducible] aPlan aGet aIf aLoop aCall RetB NextB CallB CallG aCut aSet aAppend
theorem wo_eq {xs ps : List Int} {a : Nat} (hl : xs.length = ps.length) (ha : a < xs.length) : wo xs a = wo ps a ↔ ps = xs.set a (ps.getD a 0) := by
  have e1 : ps = ps.take a ++ ([ps.getD a 0] ++ ps.drop (a + 1)) := by
    conv => lhs; rw [← List.take_append_drop a ps]
    congr 1
    rw [List.drop_eq_getElem_cons (by omega)]; simp [List.getD, List.getElem?_eq_getElem (show a < ps.length by omega)]
  have e2 : xs.set a (ps.getD a 0) = xs.take a ++ ([ps.getD a 0] ++ xs.drop (a + 1)) := by
    rw [List.set_eq_take_append_cons_drop, if_pos ha]; rfl
  constructor
  · intro h
    unfold wo at h
    have hlen : (xs.take a).length = (ps.take a).length := by simp; omega
    obtain ⟨h1, h2⟩ := List.append_inj h hlen
    rw [e2, h1, h2]; exact e1
  · intro h
    rw [e2] at h
    have h := e1.symm.trans h
    have hlen : (ps.take a).length = (xs.take a).length := by simp; omega
    obtain ⟨h1, h2⟩ := List.append_inj h hlen
    have h3 : ps.drop (a + 1) = xs.drop (a + 1) := by simpa using h2
    unfold wo
    rw [h1, h3]
end Go.Proofs.YtjmdhfjemaoebaaGreat
namespace Go.Proofs.YtjmdhfjemaoebaaGreat
set_option maxRecDepth 20000
open Go.RowKit Go.Am
set_option linter.unusedSimpArgs false
def allZ (zs : List Int) : Prop := ∀ j, zs.getD j 0 = 0
theorem allZ_rep (n : Nat) : allZ (List.replicate n 0) := fun j => by
  simp only [List.getD, List.getElem?_replicate]; split <;> rfl
theorem allZ_map {n : Nat} {f : Nat → Int} (h : ∀ j, j < n → f j = 0) : allZ ((List.range n).map f) := fun j => by
  by_cases hj : j < n
  · rw [range_getD hj]; exact h j hj
  · simp [List.getD, List.getElem?_map, List.getElem?_eq_none (show (List.range n).length ≤ j by simp; omega)]
theorem allZ_sm {xs zs : List Int} {a : Nat} (hz : allZ zs) : ∀ k, allZ (smTo xs zs a k)
  | 0 => allZ_rep _
  | k + 1 => fun j => by
    have ih := allZ_sm (xs := xs) (a := a) hz k
    rw [smTo]
    by_cases hl : (sumI xs a k).toNat < (smTo xs zs a k).length
    · rw [getD_set hl]
      split
      · rw [ih, hz]; rfl
      · exact ih j
    · rw [List.set_eq_of_length_le (by omega)]; exact ih j
theorem two_z (op : Int) : two op 0 0 = 0 := by
  unfold two
  split
  · rfl
  · split
    · rfl
    · split
      · rfl
      · split <;> rfl
theorem allZ_two {op : Int} {us vs : List Int} (hu : allZ us) (hv : allZ vs) : allZ (twoL op us vs) := allZ_map fun j _ => by rw [hu, hv, two_z]
theorem allZ_rd {nums shape steps : List Int} {start : Int} (h : allZ nums) : allZ (rdL nums shape steps start) := allZ_map fun _ _ => h _
theorem dot_z {zs qs : List Int} {m c i j : Nat} (hz : allZ zs) : ∀ k, dotT zs qs m c i j k = 0
  | 0 => rfl
  | k + 1 => by rw [dotT, dot_z hz k, hz, Int.zero_mul]; rfl
theorem allZ_pr {zs qs : List Int} {r m c : Nat} (hz : allZ zs) : allZ (prL zs qs r m c) := allZ_map fun _ _ => dot_z hz _
theorem tensor_z {xs zs : List Int} (hs : shapeOk xs = true) (hl : zs.length = (cntTo xs xs.length).toNat) (hz : allZ zs) : tensorOk xs zs = true :=
  tensorOk_t hs (by have := cnt64 hs (Nat.le_refl _); omega) fun j _ => by rw [hz j]; omega
theorem zsOf_z (xs : List Int) : allZ (zsOf xs) := allZ_rep _
theorem zsOf_len {xs : List Int} (hs : shapeOk xs = true) : (zsOf xs).length = (cntTo xs xs.length).toNat := by
  have : countOf xs = cntTo xs xs.length := if_pos hs
  simp [zsOf, this]
theorem zsOf_ok {xs : List Int} (hs : shapeOk xs = true) : tensorOk xs (zsOf xs) = true := tensor_z hs (zsOf_len hs) (zsOf_z xs)
structure ComZ (M : TM) (ok : Prop) (L : List Int) : Prop where
  b : ok → M.2.2 = true ∧ M.1 = L ∧ shapeOk L = true
  n : ¬ ok → M.2.2 = false ∧ M.1 = []
theorem comZ_t {M : TM} {ok : Prop} {L zs : List Int} (h : ok) (hM : M = (L, zs, true)) (hs : shapeOk L = true) : ComZ M ok L := ⟨fun _ => by rw [hM]; exact ⟨rfl, rfl, hs⟩, fun h' => absurd h h'⟩
theorem comZ_f {M : TM} {ok : Prop} {L : List Int} (h : ¬ ok) (hM : M = noT) : ComZ M ok L := ⟨fun h' => absurd h' h, fun _ => by rw [hM]; exact ⟨rfl, rfl⟩⟩
theorem neg_z {A : List Int} (hA : shapeOk A = true) : ComZ (negM A (zsOf A)) True A := comZ_t trivial (if_pos (zsOf_ok hA)) hA
theorem sum_z {A : List Int} {i : Int} (hA : shapeOk A = true) : ComZ (sumM A (zsOf A) i) (0 ≤ i ∧ i < A.length) (wo A i.toNat) := by
  by_cases h : 0 ≤ i ∧ i < A.length
  · obtain ⟨a, rfl⟩ : ∃ a : Nat, i = a := ⟨i.toNat, by omega⟩
    have F := sum_facts hA (show a < A.length by omega)
    refine comZ_t (zs := smTo A (zsOf A) a (zsOf A).length) h ?_ F.sh
    rw [sumM_t (zsOf_ok hA) (by omega), told_t (tensor_z F.sh (smTo_length _ _ _ _) (allZ_sm (zsOf_z A) _))]
    rw [Int.toNat_natCast]
  · exact comZ_f h (sumM_f2 h)
theorem turn_z {A l : List Int} (hA : shapeOk A = true) : ComZ (turnM A (zsOf A) l) (tsOk A l = true) (tsL A l) := by
  by_cases h : turnOk l A.length = true
  · have ht : tsOk A l = true := by unfold tsOk; rw [hA, h]; rfl
    have hL : tsL A l = turned A l := if_pos ht
    refine comZ_t ht ((if_pos ⟨zsOf_ok hA, h⟩).trans (by rw [hL])) ?_
    rw [hL]; exact (turn_facts hA h).sh
  · have ht : ¬ tsOk A l = true := fun ht => h (by unfold tsOk at ht; rw [Bool.and_eq_true] at ht; exact ht.2)
    exact comZ_f ht (if_neg fun h' => h h'.2)
theorem fold_z {A l : List Int} (hA : shapeOk A = true) : ComZ (foldM A (zsOf A) l) (countOf l = cntTo A A.length) l := by
  have hc := cnt64 hA (Nat.le_refl _)
  have hl := zsOf_len hA
  by_cases h : countOf l = cntTo A A.length
  · have hs : shapeOk l = true := by
      by_cases hs : shapeOk l = true
      · exact hs
      · have : countOf l = -1 := if_neg hs
        omega
    exact comZ_t h (if_pos ⟨zsOf_ok hA, by omega⟩) hs
  · exact comZ_f h (if_neg fun h' => h (by have := h'.2; omega))
theorem cut_z {A l : List Int} (hA : shapeOk A = true) : ComZ (cutM A (zsOf A) (l.getD (Int.toNat 0) 0) (l.getD (Int.toNat 1) 0) (l.getD (Int.toNat 2) 0)) (cshP A l) (cshL A l) := by
  by_cases h : cshP A l
  · obtain ⟨h0, h2, h1⟩ := h
    have hP : cutP A (zsOf A) (l.getD (Int.toNat 0) 0) (l.getD (Int.toNat 1) 0) (l.getD (Int.toNat 2) 0) := ⟨zsOf_ok hA, h0, h1.1, h2.1, by omega⟩
    have hL : cshL A l = cutSh A (l.getD (Int.toNat 0) 0).toNat (l.getD (Int.toNat 2) 0) := if_pos ⟨h0, h2, h1⟩
    rw [hL]
    refine comZ_t ⟨h0, h2, h1⟩ (if_pos hP) ?_
    exact (cut_facts hA (show (l.getD (Int.toNat 0) 0).toNat < A.length by omega) h1.1 h2.1 (by omega)).sh
  · refine comZ_f h (cutM_f fun h' => h ⟨h'.2.1, ?_, h'.2.2.1, by have := h'.2.2.2.2; omega⟩)
    have hz := size_in hA (show (l.getD (Int.toNat 0) 0).toNat < A.length by have := h'.2.1; omega)
    have := h'.2.2
    omega
theorem beside_z {A B : List Int} {i : Int} (hA : shapeOk A = true) (hB : shapeOk B = true) : ComZ (bsM A (zsOf A) B (zsOf B) i) (bshP A B i) (bshL A B i) := by
  by_cases h : bshP A B i
  · obtain ⟨a, rfl⟩ : ∃ a : Nat, i = a := ⟨i.toNat, by have := h.2.1; omega⟩
    have hP := h
    have h3 := h.2.2.1
    rw [Int.toNat_natCast] at h3
    have hQ : bsP A (zsOf A) B (zsOf B) (a : Int) := ⟨zsOf_ok hA, zsOf_ok hB, h.2.1, by rw [Int.toNat_natCast]; exact (wo_eq h.1 (by have := h.2.1; omega)).1 h3, h.2.2.2⟩
    have hT := bs_told hQ
    rw [bshL_t hP]
    exact comZ_t hP (bsM_t hQ) ((tensorOk_iff _ _).1 hT.1).1
  · refine comZ_f h (bsM_f fun h' => h ?_)
    have h4 := h'.2.2.2.1
    have hl : A.length = B.length := by have := congrArg List.length h4; rw [List.length_set] at this; omega
    exact ⟨hl, h'.2.2.1, (wo_eq hl (by have := h'.2.2.1; omega)).2 h4, h'.2.2.2.2⟩
theorem two_zz {op : Int} {A B : List Int} (hop : 0 ≤ op ∧ op ≤ 3) (hA : shapeOk A = true) (hB : shapeOk B = true) : ComZ (twoM op A (zsOf A) B (zsOf B)) (jOk A B = true) (jL A B) := by
  by_cases h : jOk A B = true
  · have hs := jL_ok h
    refine comZ_t (zs := twoL op (sprd A (zsOf A) (jL A B)) (sprd B (zsOf B) (jL A B))) h ?_ hs
    rw [twoM_t ⟨zsOf_ok hA, zsOf_ok hB, hop, h⟩]
    exact told_t (tensor_z hs (by rw [twoL_length, rdL_length]) (allZ_two (allZ_rd (zsOf_z A)) (allZ_rd (zsOf_z B))))
  · exact comZ_f h (twoM_f fun h' => h h'.2.2.2)
theorem prod_z {A B : List Int} (hA : shapeOk A = true) (hB : shapeOk B = true) : ComZ (prM A (zsOf A) B (zsOf B)) (A.length = 2 ∧ B.length = 2 ∧ A.getD 1 0 = B.getD 0 0) [A.getD 0 0, B.getD 1 0] := by
  by_cases h : A.length = 2 ∧ B.length = 2 ∧ A.getD 1 0 = B.getD 0 0
  · obtain ⟨h1, h2, h3⟩ := h
    have a0 := size_in hA (show 0 < A.length by omega)
    have b1 := size_in hB (show 1 < B.length by omega)
    have hs : shapeOk [A.getD 0 0, B.getD 1 0] = true := shapeOk_t (by simp) fun j hj => by
      have : j = 0 ∨ j = 1 := by simp at hj; omega
      rcases this with rfl | rfl
      · exact (okSize_iff _).2 a0
      · exact (okSize_iff _).2 b1
    refine comZ_t (zs := prL (zsOf A) (zsOf B) (A.getD 0 0).toNat (A.getD 1 0).toNat (B.getD 1 0).toNat) ⟨h1, h2, h3⟩ ?_ hs
    rw [prM_t ⟨zsOf_ok hA, zsOf_ok hB, h1, h2, h3⟩]
    refine told_t (tensor_z hs ?_ (allZ_pr (zsOf_z A)))
    rw [prL_length, cnt2 hs rfl]
    show _ = (A.getD 0 0 * B.getD 1 0).toNat
    rw [Int.toNat_mul (by omega) (by omega)]
  · exact comZ_f h (prM_f fun h' => h h'.2.2)
theorem com_z {x : Nd} {ss ins : List (List Int)} {B : List Int} (h2 : 2 ≤ x.op ∧ x.op ≤ 12) (hA : shapeOk (shA x ss) = true) (hB : shapeOk B = true) (hBe : (x.op ≤ 5 ∨ 11 ≤ x.op) → B = shB x ss) :
    ComZ (comM x (shA x ss) (zsOf (shA x ss)) B (zsOf B)) (kOk x ss) (kL x ss ins) := by
  have hop : x.op = 6 ∨ x.op = 7 ∨ x.op = 8 ∨ x.op = 9 ∨ x.op = 10 ∨ x.op = 11 ∨ x.op = 12 ∨ (2 ≤ x.op ∧ x.op ≤ 5) := by omega
  have move : ∀ {M : TM} {p : Prop} {L : List Int}, ComZ M p L → comM x (shA x ss) (zsOf (shA x ss)) B (zsOf B) = M → (p ↔ kOk x ss) → kL x ss ins = L → ComZ (comM x (shA x ss) (zsOf (shA x ss)) B (zsOf B)) (kOk x ss) (kL x ss ins) := fun h e1 e2 e3 => by
    rw [e1, e3]; exact ⟨fun hk => h.b (e2.2 hk), fun hk => h.n fun hp => hk (e2.1 hp)⟩
  rcases hop with h | h | h | h | h | h | h | h
  · exact move (neg_z hA) (by simp [comM, h]) (by simp [kOk, h]) (by simp [kL, h])
  · exact move (sum_z (i := x.l.getD (Int.toNat 0) 0) hA) (by simp [comM, h]) (by simp [kOk, h]) (by simp [kL, h])
  · exact move (turn_z (l := x.l) hA) (by simp [comM, h]) (by simp [kOk, h]) (by simp [kL, h])
  · exact move (fold_z (l := x.l) hA) (by simp [comM, h]) (by simp [kOk, h]) (by simp [kL, h])
  · exact move (cut_z (l := x.l) hA) (by simp [comM, h]) (by simp [kOk, h]) (by simp [kL, h])
  · have e := hBe (.inr (by omega))
    subst e
    exact move (beside_z (i := x.l.getD (Int.toNat 0) 0) hA hB) (by simp [comM, h]) (by simp [kOk, h]) (by simp [kL, h])
  · have e := hBe (.inr (by omega))
    subst e
    exact move (prod_z hA hB) (by simp [comM, h]) (by simp [kOk, h]) (by simp [kL, h])
  · have e := hBe (.inl h.2)
    subst e
    have hw : IntKind.i64.wrap (IntKind.i64.wrap (x.op - 2) + 0) = x.op - 2 := by
      rw [IntWalk.i64_in (x.op - 2) (by omega), Int.add_zero, IntWalk.i64_in _ (by omega)]
    refine move (two_zz (op := x.op - 2) (by omega) hA hB) ?_ ?_ ?_
    · unfold comM
      rw [if_neg (by omega), if_neg (by omega), if_neg (by omega), if_neg (by omega), if_neg (by omega), if_neg (by omega), if_neg (by omega), hw]
    · constructor
      · intro hj; exact .inr (.inr (.inl ⟨h.1, h.2, hj⟩))
      · intro hk
        rcases hk with hk | hk | hk | hk | hk | hk | hk | hk | hk
        all_goals (first | omega | exact hk.2.2)
    · unfold kL
      rw [if_neg (by omega), if_neg (by omega), if_neg (by omega), if_neg (by omega), if_neg (by omega), if_neg (by omega), if_neg (by omega), if_neg (by omega), if_neg (by omega)]
end Go.Proofs.YtjmdhfjemaoebaaGreat
namespace Go.Proofs.YtjmdhfjemaoebaaGreat
set_option maxRecDepth 20000
open Go.RowKit Go.Am Go.WideShapes Go.ChangeShapes
theorem own_ : ownKnob Tryz.prog.godebug = none := by kernel_rfl
theorem laid_ : laidOutB Tryz.prog = true := by kernel_rfl
theorem uInts : Tryz.prog.underlying 38 = some (.slice 3) := by kernel_rfl
theorem uInt : Tryz.prog.underlying 3 = some (.int .i64) := by kernel_rfl
end Go.Proofs.YtjmdhfjemaoebaaGreat
namespace Go.Proofs.YtjmdhfjemaoebaaGreat
set_option maxRecDepth 20000
open Go.RowKit Go.Am Go.WideShapes Go.ChangeShapes
theorem argT {av : AV} (h : ArgR Tryz.prog 50 av) : ∃ xs zs : List Int, av = .agg [.sl 1 xs.length (xs.map (.int .i64)), .sl 1 zs.length (zs.map (.int .i64))] := by
  obtain ⟨xs, zs, e, _, _⟩ := argRPair (t1 := 38) (e := 3) (by kernel_rfl) uInts uInt (by kernel_rfl) (by kernel_rfl) h
  exact ⟨xs, zs, e⟩
end Go.Proofs.YtjmdhfjemaoebaaGreat
namespace Go.Am
open Go.RowKit
variable {P : Program}
def fieldsAre (P : Program) (t : TypeId) (l : List (TypeId × Nat)) : Bool :=
  match P.underlying t with
  | some (.struct fs) => fs.toList.map (fun f => (f.type, f.offset)) == l
  | _ => false
theorem fields_ok {t : TypeId} {l : List (TypeId × Nat)} {us : List AV} (hp : fieldsAre P t l = true) (h : CellsOk P t us) : us.length = P.cellsOf t ∧ ∀ p ∈ l, CellsOk P p.1 ((us.drop p.2).take (P.cellsOf p.1)) := by
  unfold fieldsAre at hp
  split at hp
  case h_2 => cases hp
  rename_i fs hu
  have hf : fs.toList.map (fun f => (f.type, f.offset)) = l := by simpa using hp
  cases h with
  | int _ k' n ht hn => rw [hu] at ht; cases ht
  | bool _ b ht => rw [hu] at ht; cases ht
  | str _ s ht hs => rw [hu] at ht; cases ht
  | sl _ e' es ht hz hes => rw [hu] at ht; cases ht
  | struct _ fs' us ht hl hf' =>
    rw [hu] at ht; cases ht
    refine ⟨hl, fun p hp => ?_⟩
    rw [← hf] at hp
    obtain ⟨f, hfm, rfl⟩ := List.mem_map.1 hp
    exact hf' f hfm
theorem cells_int {t : TypeId} {k : IntKind} {us : List AV} (hu : P.underlying t = some (.int k)) (h : CellsOk P t us) : ∃ n : Int, us = [.int k n] ∧ (Lit.int k n).wf = true := by
  cases h with
  | int _ k' n ht hn => rw [hu] at ht; cases ht; exact ⟨n, rfl, hn⟩
  | bool _ b ht => rw [hu] at ht; cases ht
  | str _ s ht hs => rw [hu] at ht; cases ht
  | sl _ e' es ht hz hes => rw [hu] at ht; cases ht
  | struct _ fs us ht hl hf => rw [hu] at ht; cases ht
theorem flat_all {α : Type} {f : α → List AV} {q : α → Prop} : ∀ (es : List (List AV)), (∀ us ∈ es, ∃ x, us = f x ∧ q x) → ∃ l : List α, es.flatten = l.flatMap f ∧ l.length = es.length ∧ ∀ x ∈ l, q x
  | [], _ => ⟨[], rfl, rfl, fun x h => by simp at h⟩
  | us :: es, h => by
    obtain ⟨l, h1, h2, h3⟩ := flat_all es fun u hu => h u (List.mem_cons_of_mem _ hu)
    obtain ⟨x, rfl, hx⟩ := h us List.mem_cons_self
    exact ⟨x :: l, by simp [h1], by simp [h2], fun y hy => by
      rcases List.mem_cons.1 hy with rfl | hy
      · exact hx
      · exact h3 y hy⟩
theorem flat_one {α : Type} (f : α → AV) : ∀ (l : List α), l.flatMap (fun x => [f x]) = l.map f
  | [] => rfl
  | x :: l => by rw [List.flatMap_cons, flat_one f l]; rfl
theorem cells_slice {α : Type} {t e : TypeId} {us : List AV} {f : α → List AV} {q : α → Prop} (hu : P.underlying t = some (.slice e)) (h : CellsOk P t us) (he : ∀ us, CellsOk P e us → ∃ x, us = f x ∧ q x) : ∃ l : List α, us = [.sl 1 l.length (l.flatMap f)] ∧ ∀ x ∈ l, q x := by
  cases h with
  | int _ k' n ht hn => rw [hu] at ht; cases ht
  | bool _ b ht => rw [hu] at ht; cases ht
  | str _ s ht hs => rw [hu] at ht; cases ht
  | sl _ e' es ht hz hes =>
    rw [hu] at ht; cases ht
    obtain ⟨l, h1, h2, h3⟩ := flat_all (f := f) (q := q) es fun us hus => he us (hes us hus)
    exact ⟨l, by rw [h1, h2], h3⟩
  | struct _ fs us ht hl hf => rw [hu] at ht; cases ht
end Go.Am
namespace Go.Proofs.YtjmdhfjemaoebaaGreat
set_option maxRecDepth 20000
open Go.RowKit Go.Am Go.WideShapes Go.ChangeShapes
set_option linter.unusedSimpArgs false
theorem getb_n {bs : List Bool} {k : Nat} {K : AV → Prop} (h : k < bs.length) (hK : K (.bool (bs.getD k false))) : aGet ((bs.map .bool).drop ((k : Int).toNat * 1)) 0 K :=
  ⟨_, by rw [Int.toNat_natCast, Nat.mul_one]; simp [List.getElem?_drop, List.getElem?_eq_getElem h, List.getD], hK⟩
theorem getb_n0 {bs : List Bool} {k : Nat} {K : AV → Prop} (h : k < bs.length) (hK : K (.bool (bs.getD k false))) : aGet ((bs.map .bool).drop (0 + (k : Int).toNat * 1)) 0 K := by
  rw [Nat.zero_add]; exact getb_n h hK
theorem setb_n {bs : List Bool} {k : Nat} {b : Bool} {K : List AV → Prop} (hK : K ((bs.set k b).map .bool)) (h : k < bs.length) : aSet (bs.map .bool) (0 + (k : Int).toNat * 1) [.bool b] K := set_bool (by rw [Int.toNat_natCast]; exact hK) (by omega)
theorem cut_bools {bs : List Bool} {k : List AV → Prop} {f : Nat} (hk : k (bs.map .bool)) : aCut (f + 1) (bs.map .bool) 0 (bs.length * 1) k := cut_all (by simp) (scalL_bools _) hk
theorem uIIs : Tryz.prog.underlying 22 = some (.slice 38) := by kernel_rfl
theorem cell_int1 : Tryz.prog.cellsOf 3 = 1 := by kernel_rfl
theorem cell_ints1 : Tryz.prog.cellsOf 38 = 1 := by kernel_rfl
theorem cell_iis1 : Tryz.prog.cellsOf 22 = 1 := by kernel_rfl
theorem append_ll {env : List AV} {rows : List Row} {ctr low τ ver n τ' ver' : Nat} {A : List AV} {u : AV} {k : AV → St → Prop} (hr : rows[τ]? = some ⟨ver, 38, 1, A⟩) (hn : n = A.length) (hr' : rows[τ']? = some ⟨ver', 38, 1, [u]⟩) (hu : u.isOwn = false) (hle : n ≤ 1000) (hlow : low ≤ τ)
    (hk : k (.ref τ ctr 0 (n + 1)) ⟨env, rows.set τ ⟨ctr, 38, 1, A ++ [u]⟩, ctr + 1, low⟩) : aAppend Tryz.prog ⟨env, rows, ctr, low⟩ 22 (.ref τ ver 0 n) (.ref τ' ver' 0 1) k := by
  have hb : (bsz Tryz.prog 38) = some 24 := by kernel_rfl
  have hz : zeroCellsA Tryz.prog 38 = some [.nil] := by kernel_rfl
  have hty : Tryz.prog.underlying 22 = some (.slice 38) := by kernel_rfl
  have hs : ∀ K : Nat → Prop, K 1 → aSz Tryz.prog 38 K := fun K h => by
    have : tsz Tryz.prog 38 = some 1 := by kernel_rfl
    unfold aSz; rw [this]; exact h
  subst hn
  unfold aAppend
  rw [hty]
  simp only
  rw [hz]
  simp only
  refine hs _ ?_
  unfold aElems aRow
  simp only [hr']
  rw [if_pos trivial, if_pos (.inr trivial)]
  refine ⟨⟨by simp, by simp [hu]⟩, ⟨rfl, by rw [hb]; rfl, by rw [hb]; decide⟩, ?_⟩
  simp only [hr]
  rw [if_pos trivial, if_pos (by simp)]
  refine ⟨by simp, fun h => by omega, fun _ h => by exfalso; omega, fun _ _ => ⟨hlow, by rw [hb]; simp only [Option.getD_some]; omega, ?_⟩⟩
  have e : A.take (A.length * 1) = A := List.take_of_length_le (by omega)
  rw [e]
  simpa using hk
theorem append_lr {env : List AV} {rows : List Row} {ctr low τ ver n τ' ver' r : Nat} {A : List AV} {u : AV} {k : AV → St → Prop} (hr : rows[τ]? = some ⟨ver, 38, 1, A ++ List.replicate r .nil⟩) (hn : n = A.length) (hr' : rows[τ']? = some ⟨ver', 38, 1, [u]⟩) (hu : u.isOwn = false) (hle : 1 ≤ r)
    (hk : k (.ref τ ver 0 (n + 1)) ⟨env, rows.set τ ⟨ver, 38, 1, A ++ ([u] ++ List.replicate (r - 1) .nil)⟩, ctr, low⟩) : aAppend Tryz.prog ⟨env, rows, ctr, low⟩ 22 (.ref τ ver 0 n) (.ref τ' ver' 0 1) k := by
  have hb : (bsz Tryz.prog 38) = some 24 := by kernel_rfl
  have hz : zeroCellsA Tryz.prog 38 = some [.nil] := by kernel_rfl
  have hty : Tryz.prog.underlying 22 = some (.slice 38) := by kernel_rfl
  have hs : ∀ K : Nat → Prop, K 1 → aSz Tryz.prog 38 K := fun K h => by
    have : tsz Tryz.prog 38 = some 1 := by kernel_rfl
    unfold aSz; rw [this]; exact h
  subst hn
  unfold aAppend
  rw [hty]
  simp only
  rw [hz]
  simp only
  refine hs _ ?_
  unfold aElems aRow
  simp only [hr']
  rw [if_pos trivial, if_pos (.inr trivial)]
  refine ⟨⟨by simp, by simp [hu]⟩, ⟨rfl, by rw [hb]; rfl, by rw [hb]; decide⟩, ?_⟩
  simp only [hr]
  rw [if_pos trivial, if_pos (by simp)]
  refine ⟨by simp, fun h => by omega, fun _ _ => ?_, fun _ h => ?_⟩
  · have e1 : (A ++ List.replicate r AV.nil).take (A.length * 1) = A := by rw [Nat.mul_one]; exact List.take_left
    have e2 : (A ++ List.replicate r AV.nil).drop (A.length * 1 + [u].length) = List.replicate (r - 1) AV.nil := by
      rw [Nat.mul_one, ← List.drop_drop, List.drop_left, List.drop_replicate]; rfl
    simp only [Nat.zero_mul, List.drop_zero, Nat.one_mul, List.take_of_length_le (show [u].length ≤ 1 from Nat.le_refl _)]
    rw [e1, e2]
    simpa [St.setRow, Row.putC] using hk
  · exfalso; simp at h; omega
end Go.Proofs.YtjmdhfjemaoebaaGreat
namespace Go.Proofs.YtjmdhfjemaoebaaGreat
set_option maxRecDepth 20000
open Go.RowKit Go.Am
set_option linter.unusedSimpArgs false
theorem kL_ok {x : Nd} {k : Nat} {ss ins : List (List Int)} (hf : formP x k ins.length) (hl : ss.length = k) (hss : allOk ss) (hins : allOk ins) (hk : kOk x ss) : shapeOk (kL x ss ins) = true := by
  obtain ⟨f1, f2, f3, f4, f5, f6, f7⟩ := hf
  by_cases o0 : x.op = 0
  · have : kL x ss ins = ins.getD x.a.toNat [] := by simp [kL, o0]
    rw [this]; exact hins _ (by omega)
  · by_cases o1 : x.op = 1
    · have : kL x ss ins = [] := by simp [kL, o1]
      rw [this]; rfl
    · have hA : shapeOk (shA x ss) = true := hss _ (by omega)
      by_cases h2 : x.op ≤ 5 ∨ 11 ≤ x.op
      · have hB : shapeOk (shB x ss) = true := hss _ (by omega)
        exact ((com_z (ins := ins) ⟨by omega, f1.2⟩ hA hB (fun _ => rfl)).b hk).2.2
      · exact ((com_z (ins := ins) ⟨by omega, f1.2⟩ hA hA (fun h => absurd h h2)).b hk).2.2
def nodeP (ins : List (List Int)) (ns : List Nd) (ss : List (List Int)) (k : Nat) : Prop := formP (ns.getD k default) k ins.length ∧ kOk (ns.getD k default) ss
instance (ins : List (List Int)) (ns : List Nd) (ss : List (List Int)) (k : Nat) : Decidable (nodeP ins ns ss k) := by unfold nodeP; infer_instance
def shTo (ins : List (List Int)) (ns : List Nd) : Nat → Option (List (List Int))
  | 0 => some []
  | k + 1 => (shTo ins ns k).bind fun ss => if nodeP ins ns ss k then some (ss ++ [kL (ns.getD k default) ss ins]) else none
theorem shTo_t {ins : List (List Int)} {ns : List Nd} {k : Nat} {ss : List (List Int)} (h : shTo ins ns k = some ss) (hp : nodeP ins ns ss k) : shTo ins ns (k + 1) = some (ss ++ [kL (ns.getD k default) ss ins]) := by
  rw [shTo, h]; exact if_pos hp
theorem shTo_f {ins : List (List Int)} {ns : List Nd} {k : Nat} {ss : List (List Int)} (h : shTo ins ns k = some ss) (hp : ¬ nodeP ins ns ss k) : shTo ins ns (k + 1) = none := by
  rw [shTo, h]; exact if_neg hp
theorem shTo_none {ins : List (List Int)} {ns : List Nd} {k : Nat} (h : shTo ins ns k = none) : ∀ n, k ≤ n → shTo ins ns n = none
  | 0, hk => by
    have : k = 0 := by omega
    rw [← this]; exact h
  | n + 1, hk => by
    by_cases e : k = n + 1
    · rw [← e]; exact h
    · rw [shTo, shTo_none h n (by omega)]; rfl
theorem shTo_len {ins : List (List Int)} {ns : List Nd} : ∀ {k : Nat} {ss : List (List Int)}, shTo ins ns k = some ss → ss.length = k
  | 0, ss, h => by cases h; rfl
  | k + 1, ss, h => by
    rw [shTo] at h
    cases e : shTo ins ns k with
    | none => rw [e] at h; cases h
    | some s =>
      rw [e] at h
      have h : (if nodeP ins ns s k then some (s ++ [kL (ns.getD k default) s ins]) else none) = some ss := h
      split at h
      · cases h; rw [List.length_append, shTo_len e]; rfl
      · cases h
theorem shTo_ok {ins : List (List Int)} {ns : List Nd} (hins : allOk ins) : ∀ {k : Nat} {ss : List (List Int)}, shTo ins ns k = some ss → allOk ss
  | 0, ss, h => by cases h; intro j hj; simp at hj
  | k + 1, ss, h => by
    rw [shTo] at h
    cases e : shTo ins ns k with
    | none => rw [e] at h; cases h
    | some s =>
      rw [e] at h
      have h : (if nodeP ins ns s k then some (s ++ [kL (ns.getD k default) s ins]) else none) = some ss := h
      split at h
      · rename_i hp
        cases h
        have ih := shTo_ok hins e
        have hl := shTo_len e
        intro j hj
        rw [List.length_append] at hj
        by_cases hjk : j < s.length
        · have : (s ++ [kL (ns.getD k default) s ins]).getD j [] = s.getD j [] := by simp [List.getD, List.getElem?_append_left hjk]
          rw [this]; exact ih j hjk
        · have hjk' : j = s.length := by simp at hj; omega
          have : (s ++ [kL (ns.getD k default) s ins]).getD j [] = kL (ns.getD k default) s ins := by rw [hjk']; simp [List.getD]
          rw [this]; exact kL_ok hp.1 hl ih hins hp.2
      · cases h
abbrev LB := List (List Int) × Bool
def shM (ins : List (List Int)) (ns : List Nd) : LB :=
  if insOk ins ∧ 1 ≤ ns.length ∧ ns.length ≤ 12 then (match shTo ins ns ns.length with | some ss => (ss, true) | none => ([], false)) else ([], false)
theorem shM_t {ins : List (List Int)} {ns : List Nd} {ss : List (List Int)} (h : insOk ins ∧ 1 ≤ ns.length ∧ ns.length ≤ 12) (hs : shTo ins ns ns.length = some ss) : shM ins ns = (ss, true) := by unfold shM; rw [if_pos h, hs]
theorem shM_n {ins : List (List Int)} {ns : List Nd} (hs : shTo ins ns ns.length = none) : shM ins ns = ([], false) := by unfold shM; rw [hs]; split <;> rfl
theorem shM_f {ins : List (List Int)} {ns : List Nd} (h : ¬ (insOk ins ∧ 1 ≤ ns.length ∧ ns.length ≤ 12)) : shM ins ns = ([], false) := if_neg h
def eP (ns : List Nd) : Prop := ∀ j, j < ns.length → (ns.getD j default).l.length ≤ 1048576 ∧ wfL (ns.getD j default).l
end Go.Proofs.YtjmdhfjemaoebaaGreat
namespace Go.Proofs.YtjmdhfjemaoebaaGreat
set_option maxRecDepth 20000
open Go.RowKit Go.Am
set_option linter.unusedSimpArgs false
attribute [local irreducible] aPlan aGet aIf aLoop aCall RetB NextB CallB CallG aCut aSet aAppend
theorem kL_0 {x : Nd} {ss ins : List (List Int)} (h : x.op = 0) : kL x ss ins = ins.getD x.a.toNat [] := by simp [kL, h]
theorem kL_1 {x : Nd} {ss ins : List (List Int)} (h : x.op = 1) : kL x ss ins = [] := by simp [kL, h]
def naL (xss : List (List Int)) (ns : List Nd) (ss : List (List Int)) (k : Nat) : List Int := if nodeP xss ns ss k then kL (ns.getD k default) ss xss else []
def sShapeAt : CSpec := fnLB (ι := Nat × List (List Int) × List Nd × Nat × Nat × List (List Int)) 3 (fun | (c, xss, ns, k, d, ss) => [.agg [.sl c xss.length (xss.map (slI c)), .sl c ns.length (ns.flatMap (ndC c))], .int .i64 k, .sl d ss.length (ss.map (slI d))]) (fun | (_, xss, ns, k, _, ss) => k < ns.length ∧ ss.length = k ∧ allOk ss ∧ allOk xss ∧ eP ns) (fun | (_, xss, ns, k, _, ss) => naL xss ns ss k) (fun | (_, xss, ns, k, _, ss) => decide (nodeP xss ns ss k))
set_option maxHeartbeats 8000000 in
theorem shapeAt_sound : Sound Tryz.prog 130 sShapeAt := by
  refine sound_of Tryz.func130 rfl (enters_of Tryz.func130 (by kernel_rfl) (by kernel_rfl)) ?_
  rintro ⟨c, xss, ns, k, d, ss⟩ hpre
  have hpre : k < ns.length ∧ ss.length = k ∧ allOk ss ∧ allOk xss ∧ eP ns := hpre
  obtain ⟨hk, hl, hss, hins, hE⟩ := hpre
  obtain ⟨hxl, hwf⟩ := hE k hk
  have hmax : maxLen = 9223372036854775807 := rfl
  by_cases hf : formP (ns.getD k default) k xss.length
  · have hf' := hf
    obtain ⟨f1, f2, f3, f4, f5, f6, f7⟩ := hf'
    by_cases o0 : (ns.getD k default).op = 0
    · have hI := hins (ns.getD k default).a.toNat (by omega)
      have hI3 := ((shapeOk_iff _).1 hI).1
      have hP : nodeP xss ns ss k := ⟨hf, .inl (by omega)⟩
      have h1 : naL xss ns ss k = xss.getD (ns.getD k default).a.toNat [] := by unfold naL; rw [if_pos hP, kL_0 o0]
      conv => whnf
      repeat' (first
        | (refine tree_in (id := 9) (.one 0 (.one 1 (.one 2 (.one 3 (.one 4 (.one 5 (.one 7 (.one 8 (.one 9 (.one 10 (.one 11 (.two 6 17 (.two 12 17 (.two 13 17 (.one 14 (.one 15 (.one 16 (.one 17 (.one 18 (.one 19 .nil)))))) (.one 13 (.one 14 (.one 15 (.one 16 (.one 18 (.one 19 .nil))))))) (.one 12 (.one 13 (.one 14 (.one 15 (.one 16 (.one 18 (.one 19 .nil)))))))) (.one 6 (.one 12 (.one 13 (.one 14 (.one 15 (.one 16 (.one 18 (.one 19 .nil)))))))))))))))))))) (by kernel_rfl) (by kernel_rfl) ?_; conv => whnf) | (refine fork_in ?_ ?_ <;> conv => whnf) | ((first | refine aGet_in rfl ?_ | refine And.intro (by omega) ?_ | refine load_same ?_ | refine And.intro rfl (And.intro (List.cons_ne_nil _ _) ?_) | refine And.intro (Nat.le_of_ble_eq_true rfl) ?_ | refine callG_t ?_ | refine copyNums_call (by omega) ?_ | refine append_same ?_ | refine get_ii_n (by omega) ?_ | refine get_ii (by omega) ?_ | refine part_nd_n (by omega) ?_ | refine And.intro (pureL_ii _ _) ?_ | refine And.intro (pureL_nd _ _) ?_); conv => whnf) | (refine nodeOk_call (by first | omega | assumption | (refine ⟨?_, ?_⟩ <;> first | assumption | omega) | (refine ⟨?_, ?_, ?_⟩ <;> first | assumption | omega)) ?_; conv => whnf) | ((first | refine takeN_in ?_ | refine And.intro (pureL_ints _ _) ?_ | refine set_force ?_ | refine And.intro (by kernel_rfl) ?_); conv => whnf) | refine aIf_not ?_
        | (refine aIf_dec (fun _ => ?_) (fun _ => ?_) <;> conv => whnf))
      all_goals (first | (exfalso; omega) | (exfalso; exact absurd hf (by assumption)) | skip)
      exact retLBM h1 (decide_eq_true hP) rfl rfl
    · by_cases o1 : (ns.getD k default).op = 1
      · have hP : nodeP xss ns ss k := ⟨hf, .inl (by omega)⟩
        have h1 : naL xss ns ss k = [] := by unfold naL; rw [if_pos hP, kL_1 o1]
        conv => whnf
        repeat' (first
          | (refine tree_in (id := 9) (.one 0 (.one 1 (.one 2 (.one 3 (.one 4 (.one 5 (.one 7 (.one 8 (.one 9 (.one 10 (.one 11 (.two 6 17 (.two 12 17 (.two 13 17 (.one 14 (.one 15 (.one 16 (.one 17 (.one 18 (.one 19 .nil)))))) (.one 13 (.one 14 (.one 15 (.one 16 (.one 18 (.one 19 .nil))))))) (.one 12 (.one 13 (.one 14 (.one 15 (.one 16 (.one 18 (.one 19 .nil)))))))) (.one 6 (.one 12 (.one 13 (.one 14 (.one 15 (.one 16 (.one 18 (.one 19 .nil)))))))))))))))))))) (by kernel_rfl) (by kernel_rfl) ?_; conv => whnf) | (refine fork_in ?_ ?_ <;> conv => whnf) | ((first | refine aGet_in rfl ?_ | refine And.intro (by omega) ?_ | refine load_same ?_ | refine And.intro rfl (And.intro (List.cons_ne_nil _ _) ?_) | refine And.intro (Nat.le_of_ble_eq_true rfl) ?_ | refine callG_t ?_ | refine copyNums_call (by omega) ?_ | refine append_same ?_ | refine get_ii_n (by omega) ?_ | refine part_nd_n (by omega) ?_ | refine And.intro (pureL_ii _ _) ?_ | refine And.intro (pureL_nd _ _) ?_); conv => whnf) | (refine nodeOk_call (by first | omega | assumption | (refine ⟨?_, ?_⟩ <;> first | assumption | omega) | (refine ⟨?_, ?_, ?_⟩ <;> first | assumption | omega)) ?_; conv => whnf) | ((first | refine takeN_in ?_ | refine set_force ?_ | refine And.intro (by kernel_rfl) ?_); conv => whnf) | refine aIf_not ?_
          | (refine aIf_dec (fun _ => ?_) (fun _ => ?_) <;> conv => whnf))
        all_goals (first | (exfalso; omega) | (exfalso; exact absurd hf (by assumption)) | skip)
        exact retLBM h1 (decide_eq_true hP) rfl rfl
      · have hA : shapeOk (ss.getD (ns.getD k default).a.toNat []) = true := hss _ (by omega)
        have hA3 := ((shapeOk_iff _).1 hA).1
        have hB : shapeOk (ss.getD (ns.getD k default).b.toNat []) = true := hss _ (by omega)
        have hZ := com_z (x := ns.getD k default) (ss := ss) (ins := xss) (B := ss.getD (ns.getD k default).b.toNat []) ⟨by omega, f1.2⟩ hA hB (fun _ => rfl)
        have h1 : naL xss ns ss k = (comM (ns.getD k default) (ss.getD (ns.getD k default).a.toNat []) (zsOf (ss.getD (ns.getD k default).a.toNat [])) (ss.getD (ns.getD k default).b.toNat []) (zsOf (ss.getD (ns.getD k default).b.toNat []))).1 := by
          by_cases hk : kOk (ns.getD k default) ss
          · rw [(hZ.b hk).2.1]; exact if_pos ⟨hf, hk⟩
          · rw [(hZ.n hk).2]; exact if_neg fun h => hk h.2
        have h2 : decide (nodeP xss ns ss k) = (comM (ns.getD k default) (ss.getD (ns.getD k default).a.toNat []) (zsOf (ss.getD (ns.getD k default).a.toNat [])) (ss.getD (ns.getD k default).b.toNat []) (zsOf (ss.getD (ns.getD k default).b.toNat []))).2.2 := by
          by_cases hk : kOk (ns.getD k default) ss
          · rw [(hZ.b hk).1]; exact decide_eq_true ⟨hf, hk⟩
          · rw [(hZ.n hk).1]; exact decide_eq_false fun h => hk h.2
        conv => whnf
        repeat' (first
          | (refine tree_in (id := 9) (.one 0 (.one 1 (.one 2 (.one 3 (.one 4 (.one 5 (.one 7 (.one 8 (.one 9 (.one 10 (.one 11 (.two 6 17 (.two 12 17 (.two 13 17 (.one 14 (.one 15 (.one 16 (.one 17 (.one 18 (.one 19 .nil)))))) (.one 13 (.one 14 (.one 15 (.one 16 (.one 18 (.one 19 .nil))))))) (.one 12 (.one 13 (.one 14 (.one 15 (.one 16 (.one 18 (.one 19 .nil)))))))) (.one 6 (.one 12 (.one 13 (.one 14 (.one 15 (.one 16 (.one 18 (.one 19 .nil)))))))))))))))))))) (by kernel_rfl) (by kernel_rfl) ?_; conv => whnf) | (refine fork_in ?_ ?_ <;> conv => whnf) | ((first | refine aGet_in rfl ?_ | refine And.intro (by omega) ?_ | refine load_same ?_ | refine And.intro rfl (And.intro (List.cons_ne_nil _ _) ?_) | refine And.intro (Nat.le_of_ble_eq_true rfl) ?_ | refine callG_t ?_ | refine copyNums_call (by omega) ?_ | refine append_same ?_ | refine get_ii_n (by omega) ?_ | refine get_ii (by omega) ?_ | refine part_nd_n (by omega) ?_ | refine And.intro (pureL_ii _ _) ?_ | refine And.intro (pureL_nd _ _) ?_ | refine noughtsOf_call (by assumption) ?_); conv => whnf) | (refine comesOf_call (by refine ⟨?_, ?_, ?_, ?_⟩ <;> first | assumption | omega) ?_; conv => whnf) | (refine nodeOk_call (by first | omega | assumption | (refine ⟨?_, ?_⟩ <;> first | assumption | omega) | (refine ⟨?_, ?_, ?_⟩ <;> first | assumption | omega)) ?_; conv => whnf) | ((first | refine takeN_in ?_ | refine And.intro (pureL_ints _ _) ?_ | refine cut_ints ?_ | refine set_force ?_ | refine And.intro (by kernel_rfl) ?_); conv => whnf) | refine aIf_not ?_
          | (refine aIf_dec (fun _ => ?_) (fun _ => ?_) <;> conv => whnf))
        all_goals (first | (exfalso; omega) | (exfalso; exact absurd hf (by assumption)) | skip)
        all_goals exact retLBM h1 h2 rfl rfl
  · have hP : ¬ nodeP xss ns ss k := fun h => hf h.1
    conv => whnf
    repeat' (first
      | ((first | refine tree_in (id := 9) (.one 0 (.one 1 (.one 2 (.one 3 (.one 4 (.one 5 (.one 7 (.one 8 (.one 9 (.one 10 (.one 11 (.two 6 17 (.two 12 17 (.two 13 17 (.one 14 (.one 15 (.one 16 (.one 17 (.one 18 (.one 19 .nil)))))) (.one 13 (.one 14 (.one 15 (.one 16 (.one 18 (.one 19 .nil))))))) (.one 12 (.one 13 (.one 14 (.one 15 (.one 16 (.one 18 (.one 19 .nil)))))))) (.one 6 (.one 12 (.one 13 (.one 14 (.one 15 (.one 16 (.one 18 (.one 19 .nil)))))))))))))))))))) (by kernel_rfl) (by kernel_rfl) ?_ | refine aGet_in rfl ?_ | refine And.intro (by omega) ?_ | refine load_same ?_ | refine And.intro rfl (And.intro (List.cons_ne_nil _ _) ?_) | refine And.intro (Nat.le_of_ble_eq_true rfl) ?_ | refine callG_t ?_ | refine append_same ?_ | refine part_nd_n (by omega) ?_ | refine And.intro (pureL_ii _ _) ?_ | refine And.intro (pureL_nd _ _) ?_); conv => whnf) | (refine nodeOk_call (by first | omega | assumption | (refine ⟨?_, ?_⟩ <;> first | assumption | omega) | (refine ⟨?_, ?_, ?_⟩ <;> first | assumption | omega)) ?_; conv => whnf) | ((first | refine takeN_in ?_ | refine set_force ?_ | refine And.intro (by kernel_rfl) ?_); conv => whnf) | refine aIf_not ?_
      | (refine aIf_dec (fun _ => ?_) (fun _ => ?_) <;> conv => whnf))
    all_goals (first | (exfalso; exact absurd (by assumption) hf) | skip)
    exact retLBM (if_neg hP) (decide_eq_false hP) rfl rfl
theorem shapeAt_call {c j d : Nat} {xss ss : List (List Int)} {ns : List Nd} {env : List AV} {rows : List Row} {ctr low : Nat} {k : AV → St → Prop} (hpre : j < ns.length ∧ ss.length = j ∧ allOk ss ∧ allOk xss ∧ eP ns) (h : k (.tup [.ref rows.length ctr 0 (naL xss ns ss j).length, .bool (decide (nodeP xss ns ss j))]) ⟨env, rows ++ [⟨ctr, 3, 1, (naL xss ns ss j).map (.int .i64)⟩], ctr + 1, low⟩) :
    CallB Tryz.prog 130 ⟨env, rows, ctr, low⟩ [.agg [.sl c xss.length (xss.map (slI c)), .sl c ns.length (ns.flatMap (ndC c))], .int .i64 j, .sl d ss.length (ss.map (slI d))] k := callLB_in shapeAt_sound (c, xss, ns, j, d, ss) hpre h
end Go.Proofs.YtjmdhfjemaoebaaGreat
