import Derived.Test.YtjmdhfjemaoebaaGreatM0x40
import Derived.Test.YtjmdhfjemaoebaaGreatM0x35
import Derived.Test.YtjmdhfjemaoebaaGreatM0x36
import Derived.Test.YtjmdhfjemaoebaaGreatM0x37
import Derived.Test.YtjmdhfjemaoebaaGreatM0x19
namespace Go.Proofs.YtjmdhfjemaoebaaGreat
set_option maxRecDepth 20000
open Go.RowKit Go.Am
set_option linter.unusedSimpArgs false
attribute [local irreducible] aPlan aGet aIf aLoop aCall RetB NextB CallB CallG aCut aSet aAppend
def mNs (M : MN) : List Nd := M.map Prod.snd
theorem mNs_length (M : MN) : (mNs M).length = M.length := by simp [mNs]
def sL6Copy : CSpec := fnR2 (ι := Nat × List (List Int) × Nat × MN) 38 1 75 4 (fun | (c, xss, d, M) => [.agg [.sl c xss.length (xss.map (slI c)), .sl d M.length (M.flatMap mnC)]]) (fun | (_, xss, _, M) => cpP xss (mNs M)) (fun | (_, xss, _, _) => xss.length) (fun | (_, _, _, M) => (mNs M).length) (fun | (_, xss, _, _) => xss.map (ownI 3)) (fun | (_, _, _, M) => (mNs M).flatMap (ndO 3))
set_option maxHeartbeats 8000000 in
theorem l6Copy_sound : Sound Tryz.prog 36 sL6Copy := by
  refine sound_of Tryz.func36 rfl (enters_of Tryz.func36 (by kernel_rfl) (by kernel_rfl)) ?_
  rintro ⟨c, xss, d, M⟩ hpre
  obtain ⟨⟨hl, hk3⟩, hnl, hn3⟩ : cpP xss (mNs M) := hpre
  have hML := mNs_length M
  have hmax : maxLen = 9223372036854775807 := rfl
  conv => whnf
  repeat' (first
    | ((first | refine plan_in (id := 5) [0, 1, 2, 3, 4, 5, 6, 7, 8, 9, 10, 11] (by kernel_rfl) (by kernel_rfl) ?_ | refine And.intro rfl (And.intro (List.cons_ne_nil _ _) ?_) | refine And.intro (Nat.le_of_ble_eq_true rfl) ?_ | refine append_same ?_ | refine set_force ?_ | refine And.intro (by kernel_rfl) ?_); conv => whnf))
  refine loop_ut (ι := Nat) [false, true, true, true, true, false, false, false, false, false, false, false, false, false, false, false, false, false, false, false, false, false, false, false, false, false, false, false, false, false, false, false, false, false, false, false, false, false, false, false, false, false, false, false, false, false, false, false, false] (fun k => [(4, .int .i64 k)]) (fun k => [(8, [.ref 4 5 0 k, .ref 5 6 0 0]), (4, (xss.take k).map (ownI 3))]) (fun k => k ≤ xss.length) (fun k => xss.length - k) (0) (Nat.zero_le _) ?_ ?_
  · conv => whnf
    refine St.le.to ?_
    conv => whnf
    repeat' (first
      | exact trivial | exact rfl
      | exact Or.inl (And.intro rfl rfl) | exact pureL_ii _ _
      | exact pureL_mn _ | refine Or.inr ?_
      | refine And.intro ?_ ?_ | exact Nat.le_of_ble_eq_true rfl)
  · rintro k hk
    have hk : k ≤ xss.length := hk
    have htl : (xss.take k).length = k := by rw [List.length_take]; omega
    by_cases hlt : k < xss.length
    · have h3 := hk3 k hlt
      conv => whnf
      repeat' (first
        | ((first | refine plan_in (id := 5) [0, 1, 2, 3, 4, 5, 6, 7, 8, 9, 10, 11] (by kernel_rfl) (by kernel_rfl) ?_ | refine fun (_ : _ ≤ maxLen) => ?_ | refine aGet_in rfl ?_ | refine And.intro (by omega) ?_ | refine l2Nums_call (by omega) ?_ | refine append_same ?_ | refine get_ii_n (by omega) ?_ | refine And.intro (pureL_ints _ _) ?_ | refine And.intro (And.intro (by kernel_rfl) (And.intro rfl (Nat.le_of_ble_eq_true rfl))) ?_); conv => whnf) | (refine aIf_dec (fun _ => ?_) (fun _ => ?_) <;> conv => whnf))
      all_goals (first | (exfalso; omega) | skip)
      refine append_ll rfl (by rw [List.length_map]; exact htl.symm) rfl rfl (by omega) (Nat.zero_le _) ?_
      conv => whnf
      repeat' (first
        | ((first | refine plan_in (id := 5) [0, 1, 2, 3, 4, 5, 6, 7, 8, 9, 10, 11] (by kernel_rfl) (by kernel_rfl) ?_ | refine And.intro (Nat.le_of_ble_eq_true rfl) ?_ | refine append_same ?_ | refine set_force ?_ | refine And.intro (by kernel_rfl) ?_); conv => whnf))
      refine next_ut (k + 1) (show xss.length - (k + 1) < xss.length - k by omega) (by exact (by omega : k + 1 ≤ xss.length)) ?_
      conv => whnf
      refine to_close 4 k 9 _ _ 1 3 _ _ rfl ((List.getElem?_append_right (by rw [List.length_map]; omega)).trans (by rw [List.length_map, htl, Nat.sub_self]; rfl)) rfl (by decide) (Nat.zero_le _) (by decide) (by simp) ?_
      refine St.le.to ?_
      conv => whnf
      repeat' (first | exact le_listI hlt | refine And.intro ?_ ?_)
      repeat' (first
        | exact trivial | exact rfl
        | exact Or.inl (And.intro rfl rfl) | exact pureL_ii _ _
        | exact pureL_mn _ | refine Or.inr ?_
        | refine And.intro ?_ ?_ | exact Nat.le_of_ble_eq_true rfl
        | exact int_eq (by rw [IntWalk.i64_in _ (by omega)] <;> omega))
    · have he : k = xss.length := by omega
      have et : xss.take k = xss := by rw [he, List.take_length]
      conv => whnf
      repeat' (first
        | ((first | refine plan_in (id := 5) [0, 1, 2, 3, 4, 5, 6, 7, 8, 9, 10, 11] (by kernel_rfl) (by kernel_rfl) ?_ | refine fun (_ : _ ≤ maxLen) => ?_ | refine aGet_in rfl ?_ | refine And.intro (by omega) ?_ | refine l2Nums_call (by omega) ?_ | refine append_same ?_ | refine get_ii_n (by omega) ?_); conv => whnf) | (refine aIf_dec (fun _ => ?_) (fun _ => ?_) <;> conv => whnf))
      all_goals (first | (exfalso; omega) | skip)
      refine loop_ut (ι := Nat) [false, true, true, true, false, true, false, false, false, false, false, false, false, false, false, false, false, false, false, false, false, false, false, false, false, false, false, false, false, false, false, false, false, false, false, false, false, false, false, false, false, false, false, false, false, false, false, false, false] (fun j => [(5, .int .i64 j)]) (fun j => [(8, [.ref 4 5 0 k, .ref 5 6 0 j]), (5, ((mNs M).take j).flatMap (ndO 3))]) (fun j => j ≤ M.length) (fun j => M.length - j) (0) (Nat.zero_le _) ?_ ?_
      · conv => whnf
        refine St.le.to ?_
        conv => whnf
        repeat' (first
          | exact trivial | exact rfl
          | exact Or.inl (And.intro rfl rfl) | exact pureL_ii _ _
          | exact pureL_mn _ | exact Or.inl (And.intro (pureL_oi _ _) rfl)
          | refine Or.inr ?_ | refine And.intro ?_ ?_
          | exact Nat.le_of_ble_eq_true rfl)
      · rintro j hj
        have hj : j ≤ M.length := hj
        have htj : ((mNs M).take j).length = j := by rw [List.length_take]; omega
        by_cases hlj : j < M.length
        · have h3 : (M.getD j default).2.l.length ≤ 1048576 := by
            have := hn3 j (by omega)
            rwa [show (mNs M).getD j default = (M.getD j default).2 from mn_getD M j] at this
          have hts : (mNs M).take (j + 1) = (mNs M).take j ++ [(M.getD j default).2] := by
            rw [takeN_snoc (by omega)]
            rw [show (mNs M).getD j default = (M.getD j default).2 from mn_getD M j]
          conv => whnf
          repeat' (first
            | ((first | refine plan_in (id := 5) [0, 1, 2, 3, 4, 5, 6, 7, 8, 9, 10, 11] (by kernel_rfl) (by kernel_rfl) ?_ | refine fun (_ : _ ≤ maxLen) => ?_ | refine aGet_in rfl ?_ | refine And.intro (by omega) ?_ | refine load_same ?_ | refine And.intro (Nat.le_of_ble_eq_true rfl) ?_ | refine callG_t ?_ | refine l2Nums_call (by omega) ?_ | refine append_same ?_ | refine part_mn_n (by omega) ?_ | refine takeN_in ?_ | refine And.intro (pureL_ints _ _) ?_ | refine set_force ?_ | refine And.intro (And.intro (by kernel_rfl) (And.intro rfl (Nat.le_of_ble_eq_true rfl))) ?_ | refine And.intro (by kernel_rfl) ?_); conv => whnf) | (refine aIf_dec (fun _ => ?_) (fun _ => ?_) <;> conv => whnf))
          all_goals (first | (exfalso; omega) | skip)
          refine append_nd rfl (by rw [flat_len (ndO_length _), htj]) rfl rfl (by omega) (Nat.zero_le _) ?_
          conv => whnf
          repeat' (first
            | ((first | refine plan_in (id := 5) [0, 1, 2, 3, 4, 5, 6, 7, 8, 9, 10, 11] (by kernel_rfl) (by kernel_rfl) ?_ | refine And.intro (Nat.le_of_ble_eq_true rfl) ?_ | refine append_same ?_ | refine set_force ?_ | refine And.intro (by kernel_rfl) ?_); conv => whnf))
          refine next_ut (j + 1) (show M.length - (j + 1) < M.length - j by omega) (by exact (by omega : j + 1 ≤ M.length)) ?_
          rw [hts]
          conv => whnf
          refine to_close 5 (j * 4 + 3) 11 _ _ 1 3 _ _ rfl (get_nodeN (by rw [htj])) rfl (by decide) (Nat.zero_le _) (by decide) (by simp) ?_
          refine St.le.to ?_
          conv => whnf
          repeat' (first | exact le_nodeN (n := (M.getD j default).2) (by rw [htj]) rfl | refine And.intro ?_ ?_)
          repeat' (first
            | exact trivial | exact rfl
            | exact Or.inl (And.intro rfl rfl) | exact pureL_ii _ _
            | exact pureL_mn _ | exact Or.inl (And.intro (pureL_oi _ _) rfl)
            | refine Or.inr ?_ | refine And.intro ?_ ?_
            | exact Nat.le_of_ble_eq_true rfl | exact int_eq (by rw [IntWalk.i64_in _ (by omega)] <;> omega))
        · have hej : j = (mNs M).length := by omega
          have etj : (mNs M).take j = mNs M := by rw [hej, List.take_length]
          conv => whnf
          repeat' (first
            | ((first | refine plan_in (id := 5) [0, 1, 2, 3, 4, 5, 6, 7, 8, 9, 10, 11] (by kernel_rfl) (by kernel_rfl) ?_ | refine fun (_ : _ ≤ maxLen) => ?_ | refine aGet_in rfl ?_ | refine And.intro (by omega) ?_ | refine load_same ?_ | refine And.intro (Nat.le_of_ble_eq_true rfl) ?_ | refine callG_t ?_ | refine l2Nums_call (by omega) ?_ | refine append_same ?_ | refine part_mn_n (by omega) ?_ | refine takeN_in ?_ | refine set_force ?_ | refine And.intro (by kernel_rfl) ?_); conv => whnf) | (refine aIf_dec (fun _ => ?_) (fun _ => ?_) <;> conv => whnf))
          all_goals (first | (exfalso; omega) | skip)
          rw [et, etj]
          exact retE2 (by decide) rfl rfl rfl rfl he hej
theorem l6Copy_call {c d : Nat} {xss : List (List Int)} {M : MN} {env : List AV} {rows : List Row} {ctr low : Nat} {k : AV → St → Prop} (hpre : cpP xss (mNs M)) (h : k (.agg [.ref rows.length ctr 0 xss.length, .ref (rows.length + 1) ctr 0 (mNs M).length]) ⟨env, rows ++ [⟨ctr, 38, 1, xss.map (ownI 3)⟩, ⟨ctr, 75, 4, (mNs M).flatMap (ndO 3)⟩], ctr + 1, low⟩) :
    CallB Tryz.prog 36 ⟨env, rows, ctr, low⟩ [.agg [.sl c xss.length (xss.map (slI c)), .sl d M.length (M.flatMap mnC)]] k := callR2_in l6Copy_sound (c, xss, d, M) hpre (protL_oi _ _) (protL_ond _ _) h
theorem l6Copy_callE {c d e : Nat} {xss : List (List Int)} {ns : List Nd} {env : List AV} {rows : List Row} {ctr low : Nat} {k : AV → St → Prop} (hpre : cpP xss ns) (h : k (.agg [.ref rows.length ctr 0 xss.length, .ref (rows.length + 1) ctr 0 ns.length]) ⟨env, rows ++ [⟨ctr, 38, 1, xss.map (ownI 3)⟩, ⟨ctr, 75, 4, ns.flatMap (ndO 3)⟩], ctr + 1, low⟩) :
    CallB Tryz.prog 36 ⟨env, rows, ctr, low⟩ [.agg [.sl c xss.length (xss.map (slI c)), .sl d ns.length (ns.flatMap (ndC e))]] k := by
  have e1 : mNs (ns.map fun n => (e, n)) = ns := mn_snd e ns
  have e2 := l6Copy_call (c := c) (d := d) (xss := xss) (M := ns.map fun n => (e, n)) (env := env) (rows := rows) (ctr := ctr) (low := low) (k := k) (by rw [e1]; exact hpre) (by rw [e1]; exact h)
  rw [mn_all, List.length_map] at e2
  exact e2
end Go.Proofs.YtjmdhfjemaoebaaGreat
namespace Go.Am
open Go.RowKit
theorem slI_prot1 (xs : List Int) : (slI 1 xs).prot = true := by
  show ((1 : Nat) == 1 && protL (xs.map (.int .i64))) = true
  rw [protL_ints]; rfl
theorem protL_ii1 (xss : List (List Int)) : protL (xss.map (slI 1)) = true := protL_map slI_prot1 _
theorem protL_nd1 (ns : List Nd) : protL (ns.flatMap (ndC 1)) = true := protL_flat (fun n => by simp [ndC, protL, AV.prot, slI_prot1]) _
theorem le_nodeC {L : List Nd} {n : Nd} {a b c u : AV} {p : Prop} (h : [a, b, c, u] = ndC 1 n) : (pureL (L.flatMap (ndC 1) ++ [a, b, c, u]) = true ∧ (L ++ [n]).flatMap (ndC 1) = L.flatMap (ndC 1) ++ [a, b, c, u]) ∨ p := by
  rw [h]
  refine le_cells ?_ (pureL_nd _ _)
  simp
def fnDr {ι : Type} (tn : TypeId) (args : ι → List AV) (pre : ι → Prop) (xs : ι → List (List Int)) (L : ι → List Nd) : CSpec :=
  { ι := ι, inout := [], args := args, ins := fun _ => [], pre := pre, post := fun x r ic news => ic = [] ∧ r = .agg [.sl 1 (xs x).length ((xs x).map (slI 1)), .ref 0 0 0 (L x).length] ∧ news = [⟨0, tn, 4, (L x).flatMap (ndC 1)⟩] }
theorem callDr_in {P : Program} {f : FuncId} {ι : Type} {tn : TypeId} {args : ι → List AV} {pre : ι → Prop} {xs : ι → List (List Int)} {L : ι → List Nd} (hs : Sound P f (fnDr tn args pre xs L)) (x : ι) (hpre : pre x) {env : List AV} {rows : List Row} {ctr low : Nat} {k : AV → St → Prop}
    (hk : k (.agg [.sl 1 (xs x).length ((xs x).map (slI 1)), .ref rows.length ctr 0 (L x).length]) ⟨env, rows ++ [⟨ctr, tn, 4, (L x).flatMap (ndC 1)⟩], ctr + 1, low⟩) : CallB P f ⟨env, rows, ctr, low⟩ (args x) k := callB_in (sp := fnDr tn args pre xs L) hs rfl x rfl hpre (by
  rintro r news ⟨-, rfl, rfl⟩
  rw [news_prot (protL_nd1 _)]
  simpa [AV.back, backL, backT, backV] using hk)
theorem retDr {env : List AV} {rows : List Row} {ctr τ ver m : Nat} {tn : TypeId} {xss : List (List Int)} {L : List Nd} {cells : List AV} (hr : rows[τ]? = some ⟨ver, tn, 4, cells⟩) (hc : cells = L.flatMap (ndC 1)) (hm : m = L.length) :
    RetB ⟨env, rows, ctr, 0⟩ [] (fun r ic news => ic = [] ∧ r = .agg [.sl 1 xss.length (xss.map (slI 1)), .ref 0 0 0 L.length] ∧ news = [⟨0, tn, 4, L.flatMap (ndC 1)⟩]) (.agg [.sl 1 xss.length (xss.map (slI 1)), .ref τ ver 0 m]) := by
  subst hc; subst hm
  refine retP1 (Q := fun r news => r = .agg [.sl 1 xss.length (xss.map (slI 1)), .ref 0 0 0 L.length] ∧ news = [⟨0, tn, 4, L.flatMap (ndC 1)⟩]) (L := [τ]) (by simp) ?_ ?_ ⟨rfl, rfl⟩
  · simp [insOf, hr, protL_ren (protL_nd1 L)]
  · simp [AV.ren, renL, hr, protL_ii1]
theorem cut_ndC {f c : Nat} {L : List Nd} {m : Nat} {k : List AV → Prop} (hm : m = L.length) (hk : k (L.flatMap (ndC c))) : aCut (f + 2) (L.flatMap (ndC c)) 0 (m * 4) k := cut_tr (by rw [flat_len (ndC_length c), hm]) (trL_flat (fun n => tr_mnC (c, n)) L) hk
end Go.Am
namespace Go.Proofs.YtjmdhfjemaoebaaGreat
set_option maxRecDepth 20000
open Go.RowKit Go.Am
set_option linter.unusedSimpArgs false
attribute [local irreducible] aPlan aGet aIf aLoop aCall RetB NextB CallB CallG aCut aSet aAppend
theorem clo_0 {g : Nat} {x : Nd} (h : pcN x.op = 0) (hb : x.b ≤ g) : clo g x = x := by
  unfold clo
  rw [if_neg (fun h' => h'.1 h), if_neg (by omega)]
def sDrop : CSpec := fnDr (ι := List (List Int) × List Nd × Nat) 75 (fun | (xss, ns, g) => [.agg [.sl 1 xss.length (xss.map (slI 1)), .sl 1 ns.length (ns.flatMap (ndC 1))], .int .i64 g]) (fun | (xss, ns, g) => (shM xss ns).2 = true ∧ g < ns.length) (fun | (xss, _, _) => xss) (fun | (_, ns, g) => dropN ns g)
set_option maxHeartbeats 8000000 in
theorem l6Drop_sound : Sound Tryz.prog 81 sDrop := by
  refine sound_of Tryz.func81 rfl (enters_of Tryz.func81 (by kernel_rfl) (by kernel_rfl)) ?_
  rintro ⟨xss, ns, g⟩ hpre
  obtain ⟨hM, hg⟩ : (shM xss ns).2 = true ∧ g < ns.length := hpre
  have hX := exI_of hM
  have h12 := hX.n12
  have hopA := fun (k : Nat) (hk : k < ns.length) => hX.op hk
  have hb0A := fun (k : Nat) (hk : k < ns.length) => hX.b0 hk
  clear hX hM
  have hmax : maxLen = 9223372036854775807 := rfl
  conv => whnf
  repeat' (first
    | ((first | refine aGet_in rfl ?_ | refine And.intro rfl (And.intro (List.cons_ne_nil _ _) ?_) | refine And.intro (Nat.le_of_ble_eq_true rfl) ?_ | refine append_same ?_ | refine set_force ?_ | refine And.intro (by kernel_rfl) ?_); conv => whnf))
  refine loop_ut (ι := Nat) [false, true, true, false, true, true, true, false, false, false, false, false, false, false, false, false, false, false, false, false, false, false, false, false, false, false, false, false, false, false, false, false, false, false, false, false, false, false, false, false, false, false, false, false, false, false, false, false, false, false, false, false, false, false, false, false, false, false, false, false, false, false, false, false] (fun k => [(6, .int .i64 k)]) (fun k => [(7, [.sl 1 xss.length (xss.map (slI 1)), .ref 4 5 0 (dTo ns g k).length]), (4, (dTo ns g k).flatMap (ndC 1))]) (fun k => k ≤ ns.length) (fun k => ns.length - k) (0) (Nat.zero_le _) ?_ ?_
  · conv => whnf
    refine St.le.to ?_
    conv => whnf
    repeat' (first
      | exact trivial | exact rfl
      | exact Or.inl (And.intro rfl rfl) | exact pureL_ii _ _
      | exact pureL_nd _ _ | refine Or.inr ?_
      | refine And.intro ?_ ?_ | exact Nat.le_of_ble_eq_true rfl)
  · rintro k hk
    have hk : k ≤ ns.length := hk
    have hdl := dTo_le ns g k
    by_cases hlt : k < ns.length
    · have hop := hopA k hlt
      have hb0 := hb0A k hlt
      clear hopA hb0A
      by_cases hkg : (k : Int) = g
      · have hn := dTo_g (ns := ns) (show k = g by omega)
        conv => whnf
        repeat' (first
          | ((first | refine aIf_t ?_ | refine aIf_f ?_ | refine fun (_ : _ ≤ maxLen) => ?_ | refine aGet_in rfl ?_ | refine And.intro (by omega) ?_ | refine load_same ?_ | refine And.intro (Nat.le_of_ble_eq_true rfl) ?_ | refine callG_t ?_ | refine append_same ?_ | refine part_nd_n (by omega) ?_ | refine l3Two_call trivial ?_ | refine l3One_call trivial ?_ | refine takeN_in ?_ | refine set_force ?_ | refine And.intro (by kernel_rfl) ?_); conv => whnf) | refine aIf_eqt ?_
          | refine aIf_eqf ?_ | (refine aIf_dec (fun _ => ?_) (fun _ => ?_) <;> conv => whnf))
        all_goals (first | (exfalso; omega) | contradiction | skip)
        refine next_ut (k + 1) (show ns.length - (k + 1) < ns.length - k by omega) (by exact (by omega : k + 1 ≤ ns.length)) ?_
        rw [hn]
        conv => whnf
        refine St.le.to ?_
        conv => whnf
        repeat' (first
          | exact trivial | exact rfl
          | exact Or.inl (And.intro rfl rfl) | exact pureL_ii _ _
          | exact pureL_nd _ _ | exact Or.inl (And.intro (pureL_nd _ _) rfl)
          | refine Or.inr ?_ | refine And.intro ?_ ?_
          | exact Nat.le_of_ble_eq_true rfl | exact int_eq (by rw [IntWalk.i64_in _ (by omega)] <;> omega))
      · have hn := dTo_n (ns := ns) (show ¬ k = g by omega)
        have hnl : (dTo ns g (k + 1)).length = (dTo ns g k).length + 1 := by rw [hn, List.length_append, List.length_singleton]
        have hpc := pcN_cases (ns.getD k default).op
        by_cases c0 : pcN (ns.getD k default).op = 0
        · have t1 : ¬ (6 ≤ (ns.getD k default).op ∧ (ns.getD k default).op ≤ 10) := by omega
          have t2 : ¬ twoP3 (ns.getD k default).op := by unfold twoP3; omega
          have hC : clo g (ns.getD k default) = ns.getD k default := clo_0 c0 (by have := hb0 (by omega); omega)
          conv => whnf
          repeat' (first
            | ((first | refine aIf_t ?_ | refine aIf_f ?_ | refine fun (_ : _ ≤ maxLen) => ?_ | refine aGet_in rfl ?_ | refine And.intro (by omega) ?_ | refine load_same ?_ | refine And.intro (Nat.le_of_ble_eq_true rfl) ?_ | refine callG_t ?_ | refine append_same ?_ | refine part_nd_n (by omega) ?_ | refine l3Two_call trivial ?_ | refine l3One_call trivial ?_ | refine takeN_in ?_ | refine set_force ?_ | refine And.intro (And.intro (by kernel_rfl) (And.intro rfl (Nat.le_of_ble_eq_true rfl))) ?_ | refine And.intro (by kernel_rfl) ?_); conv => whnf) | refine aIf_eqt ?_
            | refine aIf_eqf ?_ | (refine aIf_dec (fun _ => ?_) (fun _ => ?_) <;> conv => whnf))
          all_goals (first | (exfalso; omega) | contradiction | skip)
          refine append_nd rfl (flat_len (ndC_length _) _) rfl rfl (by omega) (Nat.zero_le _) ?_
          conv => whnf
          repeat' (first
            | ((first | refine And.intro (Nat.le_of_ble_eq_true rfl) ?_ | refine append_same ?_ | refine set_force ?_ | refine And.intro (by kernel_rfl) ?_); conv => whnf))
          refine next_ut (k + 1) (show ns.length - (k + 1) < ns.length - k by omega) (by exact (by omega : k + 1 ≤ ns.length)) ?_
          rw [hnl, hn, hC]
          conv => whnf
          refine St.le.to ?_
          conv => whnf
          repeat' (first | exact le_nodeC (n := ns.getD k default) rfl | refine And.intro ?_ ?_)
          repeat' (first
            | exact trivial | exact rfl
            | exact Or.inl (And.intro rfl rfl) | exact pureL_ii _ _
            | exact pureL_nd _ _ | refine Or.inr ?_
            | refine And.intro ?_ ?_ | exact Nat.le_of_ble_eq_true rfl
            | exact int_eq (by rw [IntWalk.i64_in _ (by omega)] <;> omega))
        · by_cases ea : (g : Int) < (ns.getD k default).a
          · by_cases c1 : 6 ≤ (ns.getD k default).op ∧ (ns.getD k default).op ≤ 10
            · have t2 : ¬ twoP3 (ns.getD k default).op := by unfold twoP3; omega
              have eb : ¬ (g : Int) < (ns.getD k default).b := by have := hb0 (by omega); omega
              have hC : clo g (ns.getD k default) = ⟨(ns.getD k default).op, IntKind.i64.wrap ((ns.getD k default).a - 1), (ns.getD k default).b, (ns.getD k default).l⟩ := by unfold clo; rw [if_pos ⟨c0, ea⟩, if_neg eb]
              conv => whnf
              repeat' (first
                | ((first | refine aIf_t ?_ | refine aIf_f ?_ | refine fun (_ : _ ≤ maxLen) => ?_ | refine aGet_in rfl ?_ | refine And.intro (by omega) ?_ | refine load_same ?_ | refine And.intro (Nat.le_of_ble_eq_true rfl) ?_ | refine callG_t ?_ | refine append_same ?_ | refine part_nd_n (by omega) ?_ | refine l3Two_call trivial ?_ | refine l3One_call trivial ?_ | refine takeN_in ?_ | refine set_force ?_ | refine And.intro (And.intro (by kernel_rfl) (And.intro rfl (Nat.le_of_ble_eq_true rfl))) ?_ | refine And.intro (by kernel_rfl) ?_); conv => whnf) | refine aIf_eqt ?_
                | refine aIf_eqf ?_ | (refine aIf_dec (fun _ => ?_) (fun _ => ?_) <;> conv => whnf))
              all_goals (first | (exfalso; omega) | contradiction | skip)
              refine append_nd rfl (flat_len (ndC_length _) _) rfl rfl (by omega) (Nat.zero_le _) ?_
              conv => whnf
              repeat' (first
                | ((first | refine And.intro (Nat.le_of_ble_eq_true rfl) ?_ | refine append_same ?_ | refine set_force ?_ | refine And.intro (by kernel_rfl) ?_); conv => whnf))
              refine next_ut (k + 1) (show ns.length - (k + 1) < ns.length - k by omega) (by exact (by omega : k + 1 ≤ ns.length)) ?_
              rw [hnl, hn, hC]
              conv => whnf
              refine St.le.to ?_
              conv => whnf
              repeat' (first | exact le_nodeC rfl | refine And.intro ?_ ?_)
              repeat' (first
                | exact trivial | exact rfl
                | exact Or.inl (And.intro rfl rfl) | exact pureL_ii _ _
                | exact pureL_nd _ _ | refine Or.inr ?_
                | refine And.intro ?_ ?_ | exact Nat.le_of_ble_eq_true rfl
                | exact int_eq (by rw [IntWalk.i64_in _ (by omega)] <;> omega))
            · have t2 : twoP3 (ns.getD k default).op := by unfold twoP3; omega
              by_cases eb : (g : Int) < (ns.getD k default).b
              · have hC : clo g (ns.getD k default) = ⟨(ns.getD k default).op, IntKind.i64.wrap ((ns.getD k default).a - 1), IntKind.i64.wrap ((ns.getD k default).b - 1), (ns.getD k default).l⟩ := by unfold clo; rw [if_pos ⟨c0, ea⟩, if_pos eb]
                conv => whnf
                repeat' (first
                  | ((first | refine aIf_t ?_ | refine aIf_f ?_ | refine fun (_ : _ ≤ maxLen) => ?_ | refine aGet_in rfl ?_ | refine And.intro (by omega) ?_ | refine load_same ?_ | refine And.intro (Nat.le_of_ble_eq_true rfl) ?_ | refine callG_t ?_ | refine append_same ?_ | refine part_nd_n (by omega) ?_ | refine l3Two_call trivial ?_ | refine l3One_call trivial ?_ | refine takeN_in ?_ | refine set_force ?_ | refine And.intro (And.intro (by kernel_rfl) (And.intro rfl (Nat.le_of_ble_eq_true rfl))) ?_ | refine And.intro (by kernel_rfl) ?_); conv => whnf) | refine aIf_eqt ?_
                  | refine aIf_eqf ?_ | (refine aIf_dec (fun _ => ?_) (fun _ => ?_) <;> conv => whnf))
                all_goals (first | (exfalso; omega) | contradiction | skip)
                refine append_nd rfl (flat_len (ndC_length _) _) rfl rfl (by omega) (Nat.zero_le _) ?_
                conv => whnf
                repeat' (first
                  | ((first | refine And.intro (Nat.le_of_ble_eq_true rfl) ?_ | refine append_same ?_ | refine set_force ?_ | refine And.intro (by kernel_rfl) ?_); conv => whnf))
                refine next_ut (k + 1) (show ns.length - (k + 1) < ns.length - k by omega) (by exact (by omega : k + 1 ≤ ns.length)) ?_
                rw [hnl, hn, hC]
                conv => whnf
                refine St.le.to ?_
                conv => whnf
                repeat' (first | exact le_nodeC rfl | refine And.intro ?_ ?_)
                repeat' (first
                  | exact trivial | exact rfl
                  | exact Or.inl (And.intro rfl rfl) | exact pureL_ii _ _
                  | exact pureL_nd _ _ | refine Or.inr ?_
                  | refine And.intro ?_ ?_ | exact Nat.le_of_ble_eq_true rfl
                  | exact int_eq (by rw [IntWalk.i64_in _ (by omega)] <;> omega))
              · have hC : clo g (ns.getD k default) = ⟨(ns.getD k default).op, IntKind.i64.wrap ((ns.getD k default).a - 1), (ns.getD k default).b, (ns.getD k default).l⟩ := by unfold clo; rw [if_pos ⟨c0, ea⟩, if_neg eb]
                conv => whnf
                repeat' (first
                  | ((first | refine aIf_t ?_ | refine aIf_f ?_ | refine fun (_ : _ ≤ maxLen) => ?_ | refine aGet_in rfl ?_ | refine And.intro (by omega) ?_ | refine load_same ?_ | refine And.intro (Nat.le_of_ble_eq_true rfl) ?_ | refine callG_t ?_ | refine append_same ?_ | refine part_nd_n (by omega) ?_ | refine l3Two_call trivial ?_ | refine l3One_call trivial ?_ | refine takeN_in ?_ | refine set_force ?_ | refine And.intro (And.intro (by kernel_rfl) (And.intro rfl (Nat.le_of_ble_eq_true rfl))) ?_ | refine And.intro (by kernel_rfl) ?_); conv => whnf) | refine aIf_eqt ?_
                  | refine aIf_eqf ?_ | (refine aIf_dec (fun _ => ?_) (fun _ => ?_) <;> conv => whnf))
                all_goals (first | (exfalso; omega) | contradiction | skip)
                refine append_nd rfl (flat_len (ndC_length _) _) rfl rfl (by omega) (Nat.zero_le _) ?_
                conv => whnf
                repeat' (first
                  | ((first | refine And.intro (Nat.le_of_ble_eq_true rfl) ?_ | refine append_same ?_ | refine set_force ?_ | refine And.intro (by kernel_rfl) ?_); conv => whnf))
                refine next_ut (k + 1) (show ns.length - (k + 1) < ns.length - k by omega) (by exact (by omega : k + 1 ≤ ns.length)) ?_
                rw [hnl, hn, hC]
                conv => whnf
                refine St.le.to ?_
                conv => whnf
                repeat' (first | exact le_nodeC rfl | refine And.intro ?_ ?_)
                repeat' (first
                  | exact trivial | exact rfl
                  | exact Or.inl (And.intro rfl rfl) | exact pureL_ii _ _
                  | exact pureL_nd _ _ | refine Or.inr ?_
                  | refine And.intro ?_ ?_ | exact Nat.le_of_ble_eq_true rfl
                  | exact int_eq (by rw [IntWalk.i64_in _ (by omega)] <;> omega))
          · by_cases c1 : 6 ≤ (ns.getD k default).op ∧ (ns.getD k default).op ≤ 10
            · have t2 : ¬ twoP3 (ns.getD k default).op := by unfold twoP3; omega
              have eb : ¬ (g : Int) < (ns.getD k default).b := by have := hb0 (by omega); omega
              have hC : clo g (ns.getD k default) = ns.getD k default := by unfold clo; rw [if_neg fun h => ea h.2, if_neg eb]
              conv => whnf
              repeat' (first
                | ((first | refine aIf_t ?_ | refine aIf_f ?_ | refine fun (_ : _ ≤ maxLen) => ?_ | refine aGet_in rfl ?_ | refine And.intro (by omega) ?_ | refine load_same ?_ | refine And.intro (Nat.le_of_ble_eq_true rfl) ?_ | refine callG_t ?_ | refine append_same ?_ | refine part_nd_n (by omega) ?_ | refine l3Two_call trivial ?_ | refine l3One_call trivial ?_ | refine takeN_in ?_ | refine set_force ?_ | refine And.intro (And.intro (by kernel_rfl) (And.intro rfl (Nat.le_of_ble_eq_true rfl))) ?_ | refine And.intro (by kernel_rfl) ?_); conv => whnf) | refine aIf_eqt ?_
                | refine aIf_eqf ?_ | (refine aIf_dec (fun _ => ?_) (fun _ => ?_) <;> conv => whnf))
              all_goals (first | (exfalso; omega) | contradiction | skip)
              refine append_nd rfl (flat_len (ndC_length _) _) rfl rfl (by omega) (Nat.zero_le _) ?_
              conv => whnf
              repeat' (first
                | ((first | refine And.intro (Nat.le_of_ble_eq_true rfl) ?_ | refine append_same ?_ | refine set_force ?_ | refine And.intro (by kernel_rfl) ?_); conv => whnf))
              refine next_ut (k + 1) (show ns.length - (k + 1) < ns.length - k by omega) (by exact (by omega : k + 1 ≤ ns.length)) ?_
              rw [hnl, hn, hC]
              conv => whnf
              refine St.le.to ?_
              conv => whnf
              repeat' (first | exact le_nodeC (n := ns.getD k default) rfl | refine And.intro ?_ ?_)
              repeat' (first
                | exact trivial | exact rfl
                | exact Or.inl (And.intro rfl rfl) | exact pureL_ii _ _
                | exact pureL_nd _ _ | refine Or.inr ?_
                | refine And.intro ?_ ?_ | exact Nat.le_of_ble_eq_true rfl
                | exact int_eq (by rw [IntWalk.i64_in _ (by omega)] <;> omega))
            · have t2 : twoP3 (ns.getD k default).op := by unfold twoP3; omega
              by_cases eb : (g : Int) < (ns.getD k default).b
              · have hC : clo g (ns.getD k default) = ⟨(ns.getD k default).op, (ns.getD k default).a, IntKind.i64.wrap ((ns.getD k default).b - 1), (ns.getD k default).l⟩ := by unfold clo; rw [if_neg fun h => ea h.2, if_pos eb]
                conv => whnf
                repeat' (first
                  | ((first | refine aIf_t ?_ | refine aIf_f ?_ | refine fun (_ : _ ≤ maxLen) => ?_ | refine aGet_in rfl ?_ | refine And.intro (by omega) ?_ | refine load_same ?_ | refine And.intro (Nat.le_of_ble_eq_true rfl) ?_ | refine callG_t ?_ | refine append_same ?_ | refine part_nd_n (by omega) ?_ | refine l3Two_call trivial ?_ | refine l3One_call trivial ?_ | refine takeN_in ?_ | refine set_force ?_ | refine And.intro (And.intro (by kernel_rfl) (And.intro rfl (Nat.le_of_ble_eq_true rfl))) ?_ | refine And.intro (by kernel_rfl) ?_); conv => whnf) | refine aIf_eqt ?_
                  | refine aIf_eqf ?_ | (refine aIf_dec (fun _ => ?_) (fun _ => ?_) <;> conv => whnf))
                all_goals (first | (exfalso; omega) | contradiction | skip)
                refine append_nd rfl (flat_len (ndC_length _) _) rfl rfl (by omega) (Nat.zero_le _) ?_
                conv => whnf
                repeat' (first
                  | ((first | refine And.intro (Nat.le_of_ble_eq_true rfl) ?_ | refine append_same ?_ | refine set_force ?_ | refine And.intro (by kernel_rfl) ?_); conv => whnf))
                refine next_ut (k + 1) (show ns.length - (k + 1) < ns.length - k by omega) (by exact (by omega : k + 1 ≤ ns.length)) ?_
                rw [hnl, hn, hC]
                conv => whnf
                refine St.le.to ?_
                conv => whnf
                repeat' (first | exact le_nodeC rfl | refine And.intro ?_ ?_)
                repeat' (first
                  | exact trivial | exact rfl
                  | exact Or.inl (And.intro rfl rfl) | exact pureL_ii _ _
                  | exact pureL_nd _ _ | refine Or.inr ?_
                  | refine And.intro ?_ ?_ | exact Nat.le_of_ble_eq_true rfl
                  | exact int_eq (by rw [IntWalk.i64_in _ (by omega)] <;> omega))
              · have hC : clo g (ns.getD k default) = ns.getD k default := by unfold clo; rw [if_neg fun h => ea h.2, if_neg eb]
                conv => whnf
                repeat' (first
                  | ((first | refine aIf_t ?_ | refine aIf_f ?_ | refine fun (_ : _ ≤ maxLen) => ?_ | refine aGet_in rfl ?_ | refine And.intro (by omega) ?_ | refine load_same ?_ | refine And.intro (Nat.le_of_ble_eq_true rfl) ?_ | refine callG_t ?_ | refine append_same ?_ | refine part_nd_n (by omega) ?_ | refine l3Two_call trivial ?_ | refine l3One_call trivial ?_ | refine takeN_in ?_ | refine set_force ?_ | refine And.intro (And.intro (by kernel_rfl) (And.intro rfl (Nat.le_of_ble_eq_true rfl))) ?_ | refine And.intro (by kernel_rfl) ?_); conv => whnf) | refine aIf_eqt ?_
                  | refine aIf_eqf ?_ | (refine aIf_dec (fun _ => ?_) (fun _ => ?_) <;> conv => whnf))
                all_goals (first | (exfalso; omega) | contradiction | skip)
                refine append_nd rfl (flat_len (ndC_length _) _) rfl rfl (by omega) (Nat.zero_le _) ?_
                conv => whnf
                repeat' (first
                  | ((first | refine And.intro (Nat.le_of_ble_eq_true rfl) ?_ | refine append_same ?_ | refine set_force ?_ | refine And.intro (by kernel_rfl) ?_); conv => whnf))
                refine next_ut (k + 1) (show ns.length - (k + 1) < ns.length - k by omega) (by exact (by omega : k + 1 ≤ ns.length)) ?_
                rw [hnl, hn, hC]
                conv => whnf
                refine St.le.to ?_
                conv => whnf
                repeat' (first | exact le_nodeC (n := ns.getD k default) rfl | refine And.intro ?_ ?_)
                repeat' (first
                  | exact trivial | exact rfl
                  | exact Or.inl (And.intro rfl rfl) | exact pureL_ii _ _
                  | exact pureL_nd _ _ | refine Or.inr ?_
                  | refine And.intro ?_ ?_ | exact Nat.le_of_ble_eq_true rfl
                  | exact int_eq (by rw [IntWalk.i64_in _ (by omega)] <;> omega))
    · have he : k = ns.length := by omega
      subst he
      conv => whnf
      repeat' (first
        | ((first | refine aIf_t ?_ | refine aIf_f ?_ | refine fun (_ : _ ≤ maxLen) => ?_ | refine aGet_in rfl ?_ | refine And.intro (by omega) ?_ | refine load_same ?_ | refine And.intro (Nat.le_of_ble_eq_true rfl) ?_ | refine callG_t ?_ | refine append_same ?_ | refine part_nd_n (by omega) ?_ | refine l3Two_call trivial ?_ | refine l3One_call trivial ?_ | refine takeN_in ?_ | refine set_force ?_ | refine And.intro (by kernel_rfl) ?_); conv => whnf) | refine aIf_eqt ?_
        | refine aIf_eqf ?_ | (refine aIf_dec (fun _ => ?_) (fun _ => ?_) <;> conv => whnf))
      all_goals (first | (exfalso; omega) | contradiction | skip)
      exact retDr rfl rfl rfl
theorem l6Drop_call {g : Nat} {xss : List (List Int)} {ns : List Nd} {env : List AV} {rows : List Row} {ctr low : Nat} {k : AV → St → Prop} (hM : (shM xss ns).2 = true) (hg : g < ns.length) (h : k (.agg [.sl 1 xss.length (xss.map (slI 1)), .ref rows.length ctr 0 (dropN ns g).length]) ⟨env, rows ++ [⟨ctr, 75, 4, (dropN ns g).flatMap (ndC 1)⟩], ctr + 1, low⟩) :
    CallB Tryz.prog 81 ⟨env, rows, ctr, low⟩ [.agg [.sl 1 xss.length (xss.map (slI 1)), .sl 1 ns.length (ns.flatMap (ndC 1))], .int .i64 g] k := callDr_in l6Drop_sound (xss, ns, g) ⟨hM, hg⟩ h
end Go.Proofs.YtjmdhfjemaoebaaGreat
namespace Go.Am
open Go.RowKit
def doPost (t : TypeId) (n : Nd) (r : AV) (news : List Row) : Prop := (r = .agg [.int .i64 n.op, .int .i64 n.a, .int .i64 n.b, slI 1 n.l] ∧ news = []) ∨ (r = .agg [.int .i64 n.op, .int .i64 n.a, .int .i64 n.b, .ref 0 0 0 n.l.length] ∧ news = [⟨0, t, 1, n.l.map (.int .i64)⟩])
theorem retDoT {env : List AV} {rows : List Row} {ctr m : Nat} {t : TypeId} {a b c : Int} {cs : List AV} {zs : List Int} {n : Nd} (hn : n = ⟨a, b, c, zs⟩) (hc : cs = zs.map (.int .i64)) (hm : m = zs.length) :
    RetB ⟨env, rows, ctr, 0⟩ [] (fun r ic news => ic = [] ∧ doPost t n r news) (.agg [.int .i64 a, .int .i64 b, .int .i64 c, .sl 1 m cs]) := by
  subst hn; subst hc; subst hm
  refine retP1 (Q := fun r news => doPost t ⟨a, b, c, zs⟩ r news) (r := .agg [.int .i64 a, .int .i64 b, .int .i64 c, .sl 1 zs.length (zs.map (.int .i64))]) (L := []) (by simp) rfl ?_ (.inl ⟨rfl, rfl⟩)
  simp [AV.ren, renL, protL_ints]
theorem retDoR {env : List AV} {rows : List Row} {ctr τ ver m : Nat} {t : TypeId} {a b c : Int} {cells : List AV} {zs : List Int} {n : Nd} (hn : n = ⟨a, b, c, zs⟩) (hr : rows[τ]? = some ⟨ver, t, 1, cells⟩) (hc : cells = zs.map (.int .i64)) (hm : m = zs.length) :
    RetB ⟨env, rows, ctr, 0⟩ [] (fun r ic news => ic = [] ∧ doPost t n r news) (.agg [.int .i64 a, .int .i64 b, .int .i64 c, .ref τ ver 0 m]) := by
  subst hn; subst hc; subst hm
  refine retP1 (Q := fun r news => doPost t ⟨a, b, c, zs⟩ r news) (r := .agg [.int .i64 a, .int .i64 b, .int .i64 c, .ref 0 0 0 zs.length]) (L := [τ]) (by simp) ?_ ?_ (.inr ⟨rfl, rfl⟩)
  · simp [insOf, hr, protL_ren (protL_ints _ _)]
  · simp [AV.ren, renL, hr]
end Go.Am
namespace Go.Proofs.YtjmdhfjemaoebaaGreat
set_option maxRecDepth 20000
open Go.RowKit Go.Am
set_option linter.unusedSimpArgs false
attribute [local irreducible] aPlan aGet aIf aLoop aCall RetB NextB CallB CallG aCut aSet aAppend
theorem some_of {P : Prop} [Decidable P] {x n : Nd} (h : (if P then some x else none : Option Nd) = some n) : P ∧ n = x := by
  by_cases hp : P
  · rw [if_pos hp] at h; exact ⟨hp, (Option.some.inj h).symm⟩
  · rw [if_neg hp] at h; cases h
theorem some_n {P : Prop} [Decidable P] {x n : Nd} (h : (if P then none else some x : Option Nd) = some n) : ¬ P ∧ n = x := by
  by_cases hp : P
  · rw [if_pos hp] at h; cases h
  · rw [if_neg hp] at h; exact ⟨hp, (Option.some.inj h).symm⟩
theorem cX_pc {ns : List Nd} {ss : List (List Int)} {ch : Int} {q : Nat} {n : Nd} (h : cX ns ss ch q = some n) : pcN (ns.getD q default).op ≠ 0 := fun hz => by rw [cX_0 hz] at h; cases h
def sDo (p : Int → Prop) : CSpec :=
  { ι := List (List Int) × List Nd × Int × Nat × Nd × Nd, inout := [], args := fun | (xss, ns, ch, _, x, _) => [.agg [.sl 1 xss.length (xss.map (slI 1)), .sl 1 ns.length (ns.flatMap (ndC 1))], .int .i64 ch, .agg [.int .i64 x.op, .int .i64 x.a, .int .i64 x.b, .sl 1 x.l.length (x.l.map (.int .i64))]], ins := fun _ => [], pre := fun | (xss, ns, ch, q, x, n) => ((eP ns ∧ (shM xss ns).2 = true ∧ q < ns.length) ∧ x = ns.getD q default ∧ cX ns (shM xss ns).1 ch q = some n) ∧ p ch, post := fun | (_, _, _, _, _, n) => fun r ic news => ic = [] ∧ doPost 3 n r news }
end Go.Proofs.YtjmdhfjemaoebaaGreat
