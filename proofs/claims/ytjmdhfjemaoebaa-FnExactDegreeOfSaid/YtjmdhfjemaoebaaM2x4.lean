import Derived.Test.YtjmdhfjemaoebaaM2x3
import Derived.Test.YtjmdhfjemaoebaaM012x12
import Derived.Test.YtjmdhfjemaoebaaM2x1
/- Chapter 3: what the laws do with lists of lists: copies. -/
namespace Go.Proofs.Ytjmdhfjemaoebaa
set_option maxRecDepth 20000
open Go.RowKit Go.Am
attribute [local irreducible] aPlan aGet aIf aLoop aCall RetB NextB CallB CallG aCut aSet aAppend

theorem le_fillF_len {α : Type} {f : α → List AV} {z : Nat} (hz : ∀ x, (f x).length = z) {l : List α} {k : Nat} {us : List AV} (hu : us.length = z) (h : k < l.length) : 0 + (k : Int).toNat * z + z ≤ (fillF f l k us).length := by
  rw [fillF_length hz hu (Nat.le_of_lt h), Nat.zero_add, Int.toNat_natCast, ← Nat.succ_mul]; exact Nat.mul_le_mul_right z h
theorem len_le_tot {xss : List (List Int)} {k : Nat} (h : k < xss.length) : (xss.getD k []).length ≤ tot xss := getD_le_sum _ [] h
theorem len_le_ntot {xss : List Nd} {k : Nat} (h : k < xss.length) : (xss.getD k default).l.length ≤ ntot xss := getD_le_sum (fun n : Nd => n.l.length) default h
theorem len_le_ttot {xss : List T2} {k : Nat} (h : k < xss.length) : (xss.getD k ([], [])).1.length + (xss.getD k ([], [])).2.length ≤ ttot xss := getD_le_sum (fun t : T2 => t.1.length + t.2.length) ([], []) h
set_option maxHeartbeats 4000000 in
theorem toIntSS_sound : Sound Try.prog 39 (fnR (ι := Nat × List (List Int)) 34 1 (fun | (c, xss) => [.sl c xss.length (xss.map (slI c))]) (fun | (_, xss) => xss.length ≤ 1048576 ∧ tot xss ≤ 1048576) (fun | (_, xss) => xss.length) (fun | (_, xss) => xss.map (ownI 3))) := by
  refine sound_of Try.func39 rfl (enters_of Try.func39 (by kernel_rfl) (by kernel_rfl)) ?_
  rintro ⟨c, xss⟩ hpre
  have hpre : xss.length ≤ 1048576 ∧ tot xss ≤ 1048576 := hpre
  conv => whnf
  repeat' (first
    | (refine fun (_ : _ ≤ maxLen) => ?_; conv => whnf)
    | (refine append_same ?_; conv => whnf)
    | (refine And.intro (And.intro (Int.le_refl _) (And.intro (by kernel_rfl) (And.intro rfl (by kernel_rfl)))) (And.intro (And.intro (by omega) (And.intro (bytes_le (b := 24) rfl (by omega)) (by omega))) ?_); conv => whnf))
  refine loop_ut (ι := Nat) [true, false, false, true, true, false, false, false, false, false, false, false, false, false, false, false, false, false, false, false, false, false, false] (fun k => [(4, .int .i64 k)]) (fun k => [(1, fillC (ownI 3) xss k .nil)]) (fun k => k ≤ xss.length) (fun k => xss.length - k) (0) (Nat.zero_le _) ?_ ?_
  · conv => whnf
    refine St.le.to ?_
    conv => whnf
    repeat' (first | exact le_fillC (ownI_pure _) rfl | refine And.intro ?_ ?_)
    repeat' (first
      | exact trivial
      | exact rfl
      | exact Or.inl (And.intro rfl rfl)
      | exact pureL_ii _ _
      | exact Nat.le_of_ble_eq_true rfl)
  · rintro k hk
    have hk : k ≤ xss.length := hk
    have hl : k < xss.length → (xss.getD k []).length ≤ 1048576 := fun h => by have := len_le_tot h; omega
    conv => whnf
    repeat' (first
      | (refine fun (_ : _ ≤ maxLen) => ?_; conv => whnf)
      | (refine And.intro (by omega) ?_; conv => whnf)
      | (refine callG_t ?_; conv => whnf)
      | (refine append_same ?_; conv => whnf)
      | (refine get_ii_n (by omega) ?_; conv => whnf)
      | (refine And.intro rfl (And.intro rfl (And.intro (by rw [fillC_length (by omega)]; omega) ?_)); conv => whnf)
      | (refine set_fillC (by omega) (by omega) ?_; conv => whnf)
      | (refine And.intro (pureL_ints _ _) ?_; conv => whnf)
      | (refine toIntS_call (by omega) ?_; conv => whnf)
      | (refine aIf_dec (fun _ => ?_) (fun _ => ?_) <;> conv => whnf))
    · rename_i hlt
      have hk' : k < xss.length := by omega
      refine next_ut (k + 1) (by omega) (by show k + 1 ≤ _; omega) ?_
      conv => whnf
      refine to_close 1 k 2 3 _ 1 3 _ _ rfl (get_fillC hk') rfl (by decide) (Nat.zero_le _) (by decide) (by simp) ?_
      refine St.le.to ?_
      conv => whnf
      repeat' (first | exact le_closeC [] hk' rfl (ownI_pure _) rfl | refine And.intro ?_ ?_)
      repeat' (first
        | exact trivial
        | exact rfl
        | exact Or.inl (And.intro rfl rfl)
        | exact pureL_ii _ _
        | exact Nat.le_of_ble_eq_true rfl
        | exact int_eq (by rw [IntWalk.i64_in _ (by omega)] <;> omega))
    · have e := fillC_all (f := ownI 3) (l := xss) (k := k) (u := .nil) (by omega)
      rw [e]
      refine retR rfl (protL_oi _ _) ?_ rfl
      simp
theorem toIntSS_call {c : Nat} {xss : List (List Int)} {env : List AV} {rows : List Row} {ctr low : Nat} {k : AV → St → Prop} (hpre : xss.length ≤ 1048576 ∧ tot xss ≤ 1048576) (h : k (.ref rows.length ctr 0 xss.length) ⟨env, rows ++ [⟨ctr, 34, 1, xss.map (ownI 3)⟩], ctr + 1, low⟩) :
    CallB Try.prog 39 ⟨env, rows, ctr, low⟩ [.sl c xss.length (xss.map (slI c))] k := callR_in toIntSS_sound (c, xss) hpre (protL_oi _ _) h

theorem toNode_sound : Sound Try.prog 96 (fnN (ι := Nat × Nd) 3 (fun | (c, n) => [.agg [.int .i64 n.op, .int .i64 n.a, .int .i64 n.b, .sl c n.l.length (n.l.map (.int .i64))]]) (fun | (_, n) => n.l.length ≤ 1048576) (fun | (_, n) => n)) := by
  refine sound_of Try.func96 rfl (enters_of Try.func96 (by kernel_rfl) (by kernel_rfl)) ?_
  rintro ⟨c, n⟩ hpre
  have hpre : n.l.length ≤ 1048576 := hpre
  conv => whnf
  repeat' (first
    | (refine aGet_in rfl ?_; conv => whnf)
    | (refine load_same ?_; conv => whnf)
    | (refine And.intro rfl (And.intro (List.cons_ne_nil _ _) ?_); conv => whnf)
    | (refine And.intro (Nat.le_of_ble_eq_true rfl) ?_; conv => whnf)
    | (refine callG_t ?_; conv => whnf)
    | (refine append_same ?_; conv => whnf)
    | (refine takeN_in ?_; conv => whnf)
    | (refine And.intro (pureL_ints _ _) ?_; conv => whnf)
    | (refine toIntS_call (by omega) ?_; conv => whnf)
    | (refine set_force ?_; conv => whnf)
    | (refine And.intro (by kernel_rfl) ?_; conv => whnf))
  exact retN rfl rfl rfl
theorem toNode_call {c : Nat} {n : Nd} {env : List AV} {rows : List Row} {ctr low : Nat} {k : AV → St → Prop} (hpre : n.l.length ≤ 1048576) (h : k (.agg [.int .i64 n.op, .int .i64 n.a, .int .i64 n.b, .ref rows.length ctr 0 n.l.length]) ⟨env, rows ++ [⟨ctr, 3, 1, n.l.map (.int .i64)⟩], ctr + 1, low⟩) :
    CallB Try.prog 96 ⟨env, rows, ctr, low⟩ [.agg [.int .i64 n.op, .int .i64 n.a, .int .i64 n.b, .sl c n.l.length (n.l.map (.int .i64))]] k := callN_in toNode_sound (c, n) hpre h
set_option maxHeartbeats 4000000 in
theorem toNodeS_sound : Sound Try.prog 54 (fnR (ι := Nat × List Nd) 80 4 (fun | (c, xss) => [.sl c xss.length (xss.flatMap (ndC c))]) (fun | (_, xss) => xss.length ≤ 1048576 ∧ ntot xss ≤ 1048576) (fun | (_, xss) => xss.length) (fun | (_, xss) => xss.flatMap (ndO 3))) := by
  refine sound_of Try.func54 rfl (enters_of Try.func54 (by kernel_rfl) (by kernel_rfl)) ?_
  rintro ⟨c, xss⟩ hpre
  have hpre : xss.length ≤ 1048576 ∧ ntot xss ≤ 1048576 := hpre
  conv => whnf
  repeat' (first
    | (refine fun (_ : _ ≤ maxLen) => ?_; conv => whnf)
    | (refine append_same ?_; conv => whnf)
    | (refine And.intro (And.intro (Int.le_refl _) (And.intro (by kernel_rfl) (And.intro rfl (by kernel_rfl)))) (And.intro (And.intro (by omega) (And.intro (bytes_le (b := 48) rfl (by omega)) (by omega))) ?_); conv => whnf))
  refine loop_ut (ι := Nat) [true, false, false, true, true, false, false, false, false, false, false, false, false, false, false, false, false, false, false, false, false, false, false] (fun k => [(4, .int .i64 k)]) (fun k => [(1, fillF (ndO 3) xss k [.int .i64 0, .int .i64 0, .int .i64 0, .nil])]) (fun k => k ≤ xss.length) (fun k => xss.length - k) (0) (Nat.zero_le _) ?_ ?_
  · conv => whnf
    refine St.le.to ?_
    conv => whnf
    repeat' (first | exact le_fillF (ndO_pure _) rfl | refine And.intro ?_ ?_)
    repeat' (first
      | exact trivial
      | exact rfl
      | exact Or.inl (And.intro rfl rfl)
      | exact pureL_nd _ _
      | exact Nat.le_of_ble_eq_true rfl)
  · rintro k hk
    have hk : k ≤ xss.length := hk
    have hl : k < xss.length → (xss.getD k default).l.length ≤ 1048576 := fun h => by have := len_le_ntot h; omega
    conv => whnf
    repeat' (first
      | (refine fun (_ : _ ≤ maxLen) => ?_; conv => whnf)
      | (refine And.intro (by omega) ?_; conv => whnf)
      | (refine callG_t ?_; conv => whnf)
      | (refine append_same ?_; conv => whnf)
      | (refine part_nd_n (by omega) ?_; conv => whnf)
      | (refine And.intro (le_fillF_len (ndO_length _) rfl (by omega)) ?_; conv => whnf)
      | (refine set_fillF (ndO_length _) (by omega) rfl ?_; conv => whnf)
      | (refine toNode_call (by omega) ?_; conv => whnf)
      | (refine And.intro (pureL_ints _ _) ?_; conv => whnf)
      | (refine And.intro (by kernel_rfl) ?_; conv => whnf)
      | (refine aIf_dec (fun _ => ?_) (fun _ => ?_) <;> conv => whnf))
    · rename_i hlt
      have hk' : k < xss.length := by omega
      refine next_ut (k + 1) (by omega) (by show k + 1 ≤ _; omega) ?_
      conv => whnf
      refine to_close 1 (k * 4 + 3) 2 3 _ 1 3 _ _ rfl (get_fillF (ndO_length _) hk' rfl) rfl (by decide) (Nat.zero_le _) (by decide) (by simp) ?_
      refine St.le.to ?_
      conv => whnf
      repeat' (first | exact le_closeF (ndO_length _) default hk' (by simp) rfl (ndO_pure _) rfl | refine And.intro ?_ ?_)
      repeat' (first
        | exact trivial
        | exact rfl
        | exact Or.inl (And.intro rfl rfl)
        | exact pureL_nd _ _
        | exact Nat.le_of_ble_eq_true rfl
        | exact int_eq (by rw [IntWalk.i64_in _ (by omega)] <;> omega))
    · have e := fillF_all (f := ndO 3) (l := xss) (k := k) (us := [.int .i64 0, .int .i64 0, .int .i64 0, .nil]) (by omega)
      rw [e]
      refine retR rfl (protL_ond _ _) ?_ rfl
      simp
theorem toNodeS_call {c : Nat} {xss : List Nd} {env : List AV} {rows : List Row} {ctr low : Nat} {k : AV → St → Prop} (hpre : xss.length ≤ 1048576 ∧ ntot xss ≤ 1048576) (h : k (.ref rows.length ctr 0 xss.length) ⟨env, rows ++ [⟨ctr, 80, 4, xss.flatMap (ndO 3)⟩], ctr + 1, low⟩) :
    CallB Try.prog 54 ⟨env, rows, ctr, low⟩ [.sl c xss.length (xss.flatMap (ndC c))] k := callR_in toNodeS_sound (c, xss) hpre (protL_ond _ _) h
set_option maxHeartbeats 4000000 in
theorem toTensorS_sound : Sound Try.prog 30 (fnR (ι := Nat × List T2) 40 2 (fun | (c, xss) => [.sl c xss.length (xss.flatMap (tnC c))]) (fun | (_, xss) => xss.length ≤ 1048576 ∧ ttot xss ≤ 1048576) (fun | (_, xss) => xss.length) (fun | (_, xss) => xss.flatMap (tnO 3))) := by
  refine sound_of Try.func30 rfl (enters_of Try.func30 (by kernel_rfl) (by kernel_rfl)) ?_
  rintro ⟨c, xss⟩ hpre
  have hpre : xss.length ≤ 1048576 ∧ ttot xss ≤ 1048576 := hpre
  conv => whnf
  repeat' (first
    | (refine fun (_ : _ ≤ maxLen) => ?_; conv => whnf)
    | (refine append_same ?_; conv => whnf)
    | (refine And.intro (And.intro (Int.le_refl _) (And.intro (by kernel_rfl) (And.intro rfl (by kernel_rfl)))) (And.intro (And.intro (by omega) (And.intro (bytes_le (b := 48) rfl (by omega)) (by omega))) ?_); conv => whnf))
  refine loop_ut (ι := Nat) [true, false, false, true, true, false, false, false, false, false, false, false, false, false, false, false, false, false, false, false, false, false, false] (fun k => [(4, .int .i64 k)]) (fun k => [(1, fillF (tnO 3) xss k [.nil, .nil])]) (fun k => k ≤ xss.length) (fun k => xss.length - k) (0) (Nat.zero_le _) ?_ ?_
  · conv => whnf
    refine St.le.to ?_
    conv => whnf
    repeat' (first | exact le_fillF (tnO_pure _) rfl | refine And.intro ?_ ?_)
    repeat' (first
      | exact trivial
      | exact rfl
      | exact Or.inl (And.intro rfl rfl)
      | exact pureL_tn _ _
      | exact Nat.le_of_ble_eq_true rfl)
  · rintro k hk
    have hk : k ≤ xss.length := hk
    have hl : k < xss.length → (xss.getD k ([], [])).1.length + (xss.getD k ([], [])).2.length ≤ 1048576 := fun h => by have := len_le_ttot h; omega
    conv => whnf
    repeat' (first
      | (refine fun (_ : _ ≤ maxLen) => ?_; conv => whnf)
      | (refine And.intro (by omega) ?_; conv => whnf)
      | (refine callG_t ?_; conv => whnf)
      | (refine toTensor_call (by omega) ?_; conv => whnf)
      | (refine append_same ?_; conv => whnf)
      | (refine part_tn_n (by omega) ?_; conv => whnf)
      | (refine And.intro (le_fillF_len (tnO_length _) rfl (by omega)) ?_; conv => whnf)
      | (refine set_fillF (tnO_length _) (by omega) rfl ?_; conv => whnf)
      | (refine And.intro (pureL_ints _ _) ?_; conv => whnf)
      | (refine And.intro (by kernel_rfl) ?_; conv => whnf)
      | (refine aIf_dec (fun _ => ?_) (fun _ => ?_) <;> conv => whnf))
    · rename_i hlt
      have hk' : k < xss.length := by omega
      refine next_ut (k + 1) (by omega) (by show k + 1 ≤ _; omega) ?_
      conv => whnf
      refine to_close 1 (k * 2 + 0) 2 3 _ 1 3 _ _ rfl (get_fillF (tnO_length _) hk' rfl) rfl (by decide) (Nat.zero_le _) (by decide) (by simp) ?_
      refine to_close 1 (k * 2 + 1) 3 3 _ 1 3 _ _ rfl (get_fillF2 (tnO_length _) hk' (by simp) rfl) rfl (by decide) (Nat.zero_le _) (by decide) (by simp) ?_
      refine St.le.to ?_
      conv => whnf
      repeat' (first | exact le_closeF2 (tnO_length _) ([], []) hk' (by simp) (by simp) rfl (tnO_pure _) rfl | refine And.intro ?_ ?_)
      repeat' (first
        | exact trivial
        | exact rfl
        | exact Or.inl (And.intro rfl rfl)
        | exact pureL_tn _ _
        | exact Nat.le_of_ble_eq_true rfl
        | exact int_eq (by rw [IntWalk.i64_in _ (by omega)] <;> omega))
    · have e := fillF_all (f := tnO 3) (l := xss) (k := k) (us := [.nil, .nil]) (by omega)
      rw [e]
      refine retR rfl (protL_otn _ _) ?_ rfl
      simp
theorem toTensorS_call {c : Nat} {xss : List T2} {env : List AV} {rows : List Row} {ctr low : Nat} {k : AV → St → Prop} (hpre : xss.length ≤ 1048576 ∧ ttot xss ≤ 1048576) (h : k (.ref rows.length ctr 0 xss.length) ⟨env, rows ++ [⟨ctr, 40, 2, xss.flatMap (tnO 3)⟩], ctr + 1, low⟩) :
    CallB Try.prog 30 ⟨env, rows, ctr, low⟩ [.sl c xss.length (xss.flatMap (tnC c))] k := callR_in toTensorS_sound (c, xss) hpre (protL_otn _ _) h
theorem toExpr_sound : Sound Try.prog 13 (fnR2 (ι := Nat × List (List Int) × List Nd) 34 1 80 4 (fun | (c, xss, ns) => [.agg [.sl c xss.length (xss.map (slI c)), .sl c ns.length (ns.flatMap (ndC c))]]) (fun | (_, xss, ns) => eSize xss ns ≤ 1048576) (fun | (_, xss, _) => xss.length) (fun | (_, _, ns) => ns.length) (fun | (_, xss, _) => xss.map (ownI 3)) (fun | (_, _, ns) => ns.flatMap (ndO 3))) := by
  refine sound_of Try.func13 rfl (enters_of Try.func13 (by kernel_rfl) (by kernel_rfl)) ?_
  rintro ⟨c, xss, ns⟩ hpre
  have hpre : xss.length + tot xss + (ns.length + ntot ns) ≤ 1048576 := hpre
  conv => whnf
  repeat' (first
    | (refine aGet_in rfl ?_; conv => whnf)
    | (refine load_same ?_; conv => whnf)
    | (refine And.intro rfl (And.intro (List.cons_ne_nil _ _) ?_); conv => whnf)
    | (refine And.intro (Nat.le_of_ble_eq_true rfl) ?_; conv => whnf)
    | (refine callG_t ?_; conv => whnf)
    | (refine append_same ?_; conv => whnf)
    | (refine And.intro (pureL_ii _ _) ?_; conv => whnf)
    | (refine And.intro (pureL_nd _ _) ?_; conv => whnf)
    | (refine toIntSS_call (by constructor <;> omega) ?_; conv => whnf)
    | (refine toNodeS_call (by constructor <;> omega) ?_; conv => whnf)
    | (refine takeN_in ?_; conv => whnf)
    | (refine set_force ?_; conv => whnf)
    | (refine And.intro (by kernel_rfl) ?_; conv => whnf))
  exact retR2 (by decide) rfl rfl (protL_oi _ _) (protL_ond _ _) rfl rfl rfl rfl
theorem toExpr_call {c : Nat} {xss : List (List Int)} {ns : List Nd} {env : List AV} {rows : List Row} {ctr low : Nat} {k : AV → St → Prop} (hpre : eSize xss ns ≤ 1048576) (h : k (.agg [.ref rows.length ctr 0 xss.length, .ref (rows.length + 1) ctr 0 ns.length]) ⟨env, rows ++ [⟨ctr, 34, 1, xss.map (ownI 3)⟩, ⟨ctr, 80, 4, ns.flatMap (ndO 3)⟩], ctr + 1, low⟩) :
    CallB Try.prog 13 ⟨env, rows, ctr, low⟩ [.agg [.sl c xss.length (xss.map (slI c)), .sl c ns.length (ns.flatMap (ndC c))]] k := callR2_in toExpr_sound (c, xss, ns) hpre (protL_oi _ _) (protL_ond _ _) h
end Go.Proofs.Ytjmdhfjemaoebaa

/- Chapter 3: an expression as a law's argument. -/
namespace Go.Proofs.Ytjmdhfjemaoebaa
set_option maxRecDepth 20000
open Go.RowKit Go.Am Go.WideShapes Go.ChangeShapes

theorem uNds : Try.prog.underlying 23 = some (.slice 107) := by kernel_rfl
theorem cell_nds1 : Try.prog.cellsOf 23 = 1 := by kernel_rfl
theorem cell_nd4 : Try.prog.cellsOf 107 = 4 := by kernel_rfl
theorem cell_ex2 : Try.prog.cellsOf 25 = 2 := by kernel_rfl
theorem nodeFs : fieldsAre Try.prog 107 [(3, 0), (3, 1), (3, 2), (34, 3)] = true := by kernel_rfl
theorem exprFs : fieldsAre Try.prog 25 [(22, 0), (23, 1)] = true := by kernel_rfl
theorem structEx : ∃ fs, Try.prog.underlying 25 = some (.struct fs) := by
  have h := exprFs
  unfold fieldsAre at h
  split at h
  · exact ⟨_, by assumption⟩
  · cases h
theorem getD_wf {zs : List Int} (h : ∀ z ∈ zs, (Lit.int .i64 z).wf = true) : wfL zs := fun j => by
  by_cases hj : j < zs.length
  · simp only [List.getD, List.getElem?_eq_getElem hj, Option.getD_some]; exact h _ (List.getElem_mem hj)
  · simp only [List.getD, List.getElem?_eq_none (show zs.length ≤ j by omega)]; rfl
theorem cells_nd (us : List AV) (h : CellsOk Try.prog 107 us) : ∃ n : Nd, us = ndC 1 n ∧ wfL n.l := by
  obtain ⟨hl, hf⟩ := fields_ok nodeFs h
  rw [cell_nd4] at hl
  match us, hl with
  | [a, b, c, d], _ =>
    have h0 := hf (3, 0) (by simp)
    have h1 := hf (3, 1) (by simp)
    have h2 := hf (3, 2) (by simp)
    have h3 := hf (34, 3) (by simp)
    simp only [cell_int1, cell_ints1] at h0 h1 h2 h3
    obtain ⟨n0, e0, -⟩ := cells_int uInt h0
    obtain ⟨n1, e1, -⟩ := cells_int uInt h1
    obtain ⟨n2, e2, -⟩ := cells_int uInt h2
    obtain ⟨zs, e3, hw⟩ := cellsInts uInts uInt h3
    simp at e0 e1 e2 e3
    exact ⟨⟨n0, n1, n2, zs⟩, by rw [e0, e1, e2, e3]; rfl, getD_wf hw⟩
theorem argE {av : AV} (h : ArgR Try.prog 25 av) : ∃ (xss : List (List Int)) (ns : List Nd), av = .agg [.sl 1 xss.length (xss.map (slI 1)), .sl 1 ns.length (ns.flatMap (ndC 1))] ∧ ∀ n ∈ ns, wfL n.l := by
  obtain ⟨fs, hu⟩ := structEx
  unfold ArgR at h
  rw [hu] at h
  obtain ⟨us, rfl, h⟩ := h
  obtain ⟨hl, hf⟩ := fields_ok exprFs h
  rw [cell_ex2] at hl
  match us, hl with
  | [a, b], _ =>
    have h0 := hf (22, 0) (by simp)
    have h1 := hf (23, 1) (by simp)
    simp only [cell_iis1, cell_nds1] at h0 h1
    obtain ⟨xss, e0, -⟩ := cells_slice (f := fun xs => [slI 1 xs]) (q := fun _ => True) uIIs h0 fun us hus => by
      obtain ⟨zs, e, -⟩ := cellsInts uInts uInt hus
      exact ⟨zs, e, trivial⟩
    obtain ⟨ns, e1, hw⟩ := cells_slice uNds h1 cells_nd
    have em := flat_one (slI 1) xss
    simp at e0 e1
    exact ⟨xss, ns, by rw [e0, e1, em], hw⟩
theorem eP_of {xss : List (List Int)} {ns : List Nd} (hs : eSize xss ns ≤ 1048576) (hw : ∀ n ∈ ns, wfL n.l) : eP ns := fun j hj => by
  have h1 := len_le_ntot hj
  unfold eSize at hs
  refine ⟨by omega, ?_⟩
  have : ns.getD j default ∈ ns := by simp only [List.getD, List.getElem?_eq_getElem hj, Option.getD_some]; exact List.getElem_mem hj
  exact hw _ this
end Go.Proofs.Ytjmdhfjemaoebaa

/- Chapter 3: SmoothOk of both sides. -/
namespace Go.Proofs.Ytjmdhfjemaoebaa
set_option maxRecDepth 20000
open Go.RowKit Go.Am
set_option linter.unusedSimpArgs false
attribute [local irreducible] aPlan aGet aIf aLoop aCall RetB NextB CallB CallG aCut aSet aAppend

def smP (xss : List (List Int)) (ns : List Nd) : Prop := (shM xss ns).2 = true ∧ ∀ j, j < ns.length → (ns.getD j default).op ≠ 5
instance (xss : List (List Int)) (ns : List Nd) : Decidable (smP xss ns) := by unfold smP; infer_instance
def sSmooth : CSpec := fnS (ι := Nat × List (List Int) × List Nd) (fun | (c, xss, ns) => [.agg [.sl c xss.length (xss.map (slI c)), .sl c ns.length (ns.flatMap (ndC c))]]) (fun | (_, _, ns) => eP ns) (fun | (_, xss, ns) => .bool (decide (smP xss ns)))
theorem smP_5 {xss : List (List Int)} {ns : List Nd} {k : Nat} (hk : k < ns.length) (h : (ns.getD k default).op = 5) : AV.bool false = AV.bool (decide (smP xss ns)) := congrArg AV.bool (decide_eq_false fun h' => h'.2 k hk h).symm
theorem smP_n {xss : List (List Int)} {ns : List Nd} (hM : (shM xss ns).2 = false) : AV.bool false = AV.bool (decide (smP xss ns)) := congrArg AV.bool (decide_eq_false fun h => Bool.false_ne_true (hM.symm.trans h.1)).symm
theorem smP_y {xss : List (List Int)} {ns : List Nd} (hM : (shM xss ns).2 = true) (h : ∀ j, j < ns.length → (ns.getD j default).op ≠ 5) : AV.bool true = AV.bool (decide (smP xss ns)) := congrArg AV.bool (decide_eq_true ⟨hM, h⟩).symm
theorem smP_m {xss : List (List Int)} {ns : List Nd} (h : ∀ j, j < ns.length → (ns.getD j default).op ≠ 5) : AV.bool (shM xss ns).2 = AV.bool (decide (smP xss ns)) := by
  cases hM : (shM xss ns).2 with
  | false => exact smP_n hM
  | true => exact smP_y hM h
set_option maxHeartbeats 4000000 in
theorem iSmoothOk_sound : Sound Try.prog 55 sSmooth := by
  refine sound_of Try.func55 rfl (enters_of Try.func55 (by kernel_rfl) (by kernel_rfl)) ?_
  rintro ⟨c, xss, ns⟩ hpre
  have hE : eP ns := hpre
  have hmax : maxLen = 9223372036854775807 := rfl
  cases hM : (shM xss ns).2 with
  | false =>
    conv => whnf
    repeat' (first
      | (refine load_same ?_; conv => whnf)
      | (refine And.intro rfl (And.intro (List.cons_ne_nil _ _) ?_); conv => whnf)
      | (refine And.intro (Nat.le_of_ble_eq_true rfl) ?_; conv => whnf)
      | (refine callG_t ?_; conv => whnf)
      | (refine append_same ?_; conv => whnf)
      | (refine And.intro (pureL_ii _ _) ?_; conv => whnf)
      | (refine And.intro (pureL_nd _ _) ?_; conv => whnf)
      | (refine iExprOk_call (by first | omega | assumption | (refine ⟨?_, ?_⟩ <;> first | assumption | omega) | (refine ⟨?_, ?_, ?_⟩ <;> first | assumption | omega)) ?_; conv => whnf)
      | (refine takeN_in ?_; conv => whnf)
      | (refine And.intro (by kernel_rfl) ?_; conv => whnf)
      | (refine aIf_ff (by assumption) ?_; conv => whnf)
      | refine aIf_not ?_)
    exact retS rfl (smP_n hM)
  | true =>
    conv => whnf
    repeat' (first
      | (refine fun (_ : _ ≤ maxLen) => ?_; conv => whnf)
      | (refine aGet_in rfl ?_; conv => whnf)
      | (refine load_same ?_; conv => whnf)
      | (refine And.intro rfl (And.intro (List.cons_ne_nil _ _) ?_); conv => whnf)
      | (refine And.intro (Nat.le_of_ble_eq_true rfl) ?_; conv => whnf)
      | (refine callG_t ?_; conv => whnf)
      | (refine append_same ?_; conv => whnf)
      | (refine And.intro (pureL_ii _ _) ?_; conv => whnf)
      | (refine And.intro (pureL_nd _ _) ?_; conv => whnf)
      | (refine iExprOk_call (by first | omega | assumption | (refine ⟨?_, ?_⟩ <;> first | assumption | omega) | (refine ⟨?_, ?_, ?_⟩ <;> first | assumption | omega)) ?_; conv => whnf)
      | (refine takeN_in ?_; conv => whnf)
      | (refine And.intro (by kernel_rfl) ?_; conv => whnf)
      | (refine aIf_tt (by assumption) ?_; conv => whnf)
      | refine aIf_not ?_)
    refine loop_u (ι := Nat) [false, false, false, false, false, false, false, false, false, true, true, true, false, false, false, false, false, false, false] (fun k => [(11, .int .i64 k)]) (fun _ => []) (fun k => k ≤ ns.length ∧ ∀ j, j < k → (ns.getD j default).op ≠ 5) (fun k => ns.length - k) (0) ⟨Nat.zero_le _, fun j hj => absurd hj (Nat.not_lt_zero _)⟩ ?_ ?_
    · conv => whnf
      repeat' (first
        | exact trivial
        | exact rfl
        | exact pureL_ii _ _
        | exact pureL_nd _ _
        | refine Or.inr ?_
        | refine And.intro ?_ ?_
        | exact Nat.le_of_ble_eq_true rfl)
    · rintro k ⟨hk, hno⟩
      have hk : k ≤ ns.length := hk
      have hno : ∀ j, j < k → (ns.getD j default).op ≠ 5 := hno
      by_cases hlt : k < ns.length
      · by_cases h5 : (ns.getD k default).op = 5
        · conv => whnf
          repeat' (first
            | (refine aGet_in rfl ?_; conv => whnf)
            | (refine And.intro (by omega) ?_; conv => whnf)
            | (refine And.intro (Nat.le_of_ble_eq_true rfl) ?_; conv => whnf)
            | (refine append_same ?_; conv => whnf)
            | (refine part_nd_n (by omega) ?_; conv => whnf)
            | (refine set_force ?_; conv => whnf)
            | (refine And.intro (by kernel_rfl) ?_; conv => whnf)
            | (refine aIf_dec (fun _ => ?_) (fun _ => ?_) <;> conv => whnf))
          all_goals (first | (exfalso; omega) | skip)
          exact retS rfl (smP_5 hlt h5)
        · conv => whnf
          repeat' (first
            | (refine aGet_in rfl ?_; conv => whnf)
            | (refine And.intro (by omega) ?_; conv => whnf)
            | (refine And.intro (Nat.le_of_ble_eq_true rfl) ?_; conv => whnf)
            | (refine append_same ?_; conv => whnf)
            | (refine part_nd_n (by omega) ?_; conv => whnf)
            | (refine set_force ?_; conv => whnf)
            | (refine And.intro (by kernel_rfl) ?_; conv => whnf)
            | (refine aIf_dec (fun _ => ?_) (fun _ => ?_) <;> conv => whnf))
          all_goals (first | (exfalso; omega) | skip)
          refine next_u (k + 1) (show ns.length - (k + 1) < ns.length - k by omega) ⟨(by omega : k + 1 ≤ ns.length), fun j hj => (Nat.lt_succ_iff_lt_or_eq.1 hj).elim (hno j) (fun e => e ▸ h5)⟩ ?_
          conv => whnf
          repeat' (first
            | exact trivial
            | exact rfl
            | exact pureL_ii _ _
            | exact pureL_nd _ _
            | refine Or.inr ?_
            | refine And.intro ?_ ?_
            | exact Nat.le_of_ble_eq_true rfl
            | exact int_eq (by rw [IntWalk.i64_in _ (by omega)] <;> omega))
      · conv => whnf
        repeat' (first
          | (refine aGet_in rfl ?_; conv => whnf)
          | (refine And.intro (by omega) ?_; conv => whnf)
          | (refine append_same ?_; conv => whnf)
          | (refine part_nd_n (by omega) ?_; conv => whnf)
          | (refine set_force ?_; conv => whnf)
          | (refine aIf_dec (fun _ => ?_) (fun _ => ?_) <;> conv => whnf))
        all_goals (first | (exfalso; omega) | skip)
        exact retS rfl (smP_y hM fun j hj => hno j (by omega))
set_option maxHeartbeats 4000000 in
theorem sSmoothOk_sound : Sound Try.prog 52 sSmooth := by
  refine sound_of Try.func52 rfl (enters_of Try.func52 (by kernel_rfl) (by kernel_rfl)) ?_
  rintro ⟨c, xss, ns⟩ hpre
  have hE : eP ns := hpre
  have hmax : maxLen = 9223372036854775807 := rfl
  conv => whnf
  repeat' (first
    | (refine And.intro rfl (And.intro (List.cons_ne_nil _ _) ?_); conv => whnf)
    | (refine append_same ?_; conv => whnf))
  refine loop_u (ι := Nat) [false, true, false, true, false, false, false, false, false, false, false, false, false, false, false, false, false, false, false, false] (fun k => [(3, .int .i64 k)]) (fun _ => []) (fun k => k ≤ ns.length ∧ ∀ j, j < k → (ns.getD j default).op ≠ 5) (fun k => ns.length - k) (0) ⟨Nat.zero_le _, fun j hj => absurd hj (Nat.not_lt_zero _)⟩ ?_ ?_
  · conv => whnf
    repeat' (first
      | exact trivial
      | exact rfl
      | exact pureL_ii _ _
      | exact pureL_nd _ _
      | refine Or.inr ?_
      | refine And.intro ?_ ?_
      | exact Nat.le_of_ble_eq_true rfl)
  · rintro k ⟨hk, hno⟩
    have hk : k ≤ ns.length := hk
    have hno : ∀ j, j < k → (ns.getD j default).op ≠ 5 := hno
    by_cases hlt : k < ns.length
    · by_cases h5 : (ns.getD k default).op = 5
      · conv => whnf
        repeat' (first
          | (refine fun (_ : _ ≤ maxLen) => ?_; conv => whnf)
          | (refine aGet_in rfl ?_; conv => whnf)
          | (refine And.intro (by omega) ?_; conv => whnf)
          | (refine load_same ?_; conv => whnf)
          | (refine callG_t ?_; conv => whnf)
          | (refine append_same ?_; conv => whnf)
          | (refine get_nd_n (by omega) rfl ?_; conv => whnf)
          | (refine sExprOk_call (by first | omega | assumption | (refine ⟨?_, ?_⟩ <;> first | assumption | omega) | (refine ⟨?_, ?_, ?_⟩ <;> first | assumption | omega)) ?_; conv => whnf)
          | (refine takeN_in ?_; conv => whnf)
          | (refine aIf_dec (fun _ => ?_) (fun _ => ?_) <;> conv => whnf))
        all_goals (first | (exfalso; omega) | skip)
        exact retS rfl (smP_5 hlt h5)
      · conv => whnf
        repeat' (first
          | (refine fun (_ : _ ≤ maxLen) => ?_; conv => whnf)
          | (refine aGet_in rfl ?_; conv => whnf)
          | (refine And.intro (by omega) ?_; conv => whnf)
          | (refine load_same ?_; conv => whnf)
          | (refine callG_t ?_; conv => whnf)
          | (refine append_same ?_; conv => whnf)
          | (refine get_nd_n (by omega) rfl ?_; conv => whnf)
          | (refine sExprOk_call (by first | omega | assumption | (refine ⟨?_, ?_⟩ <;> first | assumption | omega) | (refine ⟨?_, ?_, ?_⟩ <;> first | assumption | omega)) ?_; conv => whnf)
          | (refine takeN_in ?_; conv => whnf)
          | (refine aIf_dec (fun _ => ?_) (fun _ => ?_) <;> conv => whnf))
        all_goals (first | (exfalso; omega) | skip)
        refine next_u (k + 1) (show ns.length - (k + 1) < ns.length - k by omega) ⟨(by omega : k + 1 ≤ ns.length), fun j hj => (Nat.lt_succ_iff_lt_or_eq.1 hj).elim (hno j) (fun e => e ▸ h5)⟩ ?_
        conv => whnf
        repeat' (first
          | exact trivial
          | exact rfl
          | exact pureL_ii _ _
          | exact pureL_nd _ _
          | refine Or.inr ?_
          | refine And.intro ?_ ?_
          | exact Nat.le_of_ble_eq_true rfl
          | exact int_eq (by rw [IntWalk.i64_in _ (by omega)] <;> omega))
    · conv => whnf
      repeat' (first
        | (refine fun (_ : _ ≤ maxLen) => ?_; conv => whnf)
        | (refine aGet_in rfl ?_; conv => whnf)
        | (refine And.intro (by omega) ?_; conv => whnf)
        | (refine load_same ?_; conv => whnf)
        | (refine And.intro (Nat.le_of_ble_eq_true rfl) ?_; conv => whnf)
        | (refine callG_t ?_; conv => whnf)
        | (refine append_same ?_; conv => whnf)
        | (refine get_nd_n (by omega) rfl ?_; conv => whnf)
        | (refine And.intro (pureL_ii _ _) ?_; conv => whnf)
        | (refine And.intro (pureL_nd _ _) ?_; conv => whnf)
        | (refine sExprOk_call (by first | omega | assumption | (refine ⟨?_, ?_⟩ <;> first | assumption | omega) | (refine ⟨?_, ?_, ?_⟩ <;> first | assumption | omega)) ?_; conv => whnf)
        | (refine takeN_in ?_; conv => whnf)
        | (refine And.intro (by kernel_rfl) ?_; conv => whnf)
        | (refine aIf_dec (fun _ => ?_) (fun _ => ?_) <;> conv => whnf))
      all_goals (first | (exfalso; omega) | skip)
      exact retS rfl (smP_m fun j hj => hno j (by omega))
theorem iSmoothOk_call {c : Nat} {xss : List (List Int)} {ns : List Nd} {env : List AV} {rows : List Row} {ctr low : Nat} {k : AV → St → Prop} (hpre : eP ns) (h : k (.bool (decide (smP xss ns))) ⟨env, rows, ctr + 1, low⟩) :
    CallB Try.prog 55 ⟨env, rows, ctr, low⟩ [.agg [.sl c xss.length (xss.map (slI c)), .sl c ns.length (ns.flatMap (ndC c))]] k := callS_in iSmoothOk_sound (c, xss, ns) hpre rfl h
theorem sSmoothOk_call {c : Nat} {xss : List (List Int)} {ns : List Nd} {env : List AV} {rows : List Row} {ctr low : Nat} {k : AV → St → Prop} (hpre : eP ns) (h : k (.bool (decide (smP xss ns))) ⟨env, rows, ctr + 1, low⟩) :
    CallB Try.prog 52 ⟨env, rows, ctr, low⟩ [.agg [.sl c xss.length (xss.map (slI c)), .sl c ns.length (ns.flatMap (ndC c))]] k := callS_in sSmoothOk_sound (c, xss, ns) hpre rfl h
end Go.Proofs.Ytjmdhfjemaoebaa

/- Chapter 3: UsesOf of both sides. -/
namespace Go.Proofs.Ytjmdhfjemaoebaa
set_option maxRecDepth 20000
open Go.RowKit Go.Am
set_option linter.unusedSimpArgs false
theorem shTo_form {ins : List (List Int)} {ns : List Nd} {j : Nat} (hf : ¬ formP (ns.getD j default) j ins.length) : shTo ins ns (j + 1) = none := by
  rw [shTo]
  cases shTo ins ns j with
  | none => rfl
  | some s => exact if_neg fun h => hf h.1
theorem shM_form {ins : List (List Int)} {ns : List Nd} (h : (shM ins ns).2 = true) : (1 ≤ ns.length ∧ ns.length ≤ 12) ∧ ∀ j, j < ns.length → formP (ns.getD j default) j ins.length := by
  by_cases hI : insOk ins ∧ 1 ≤ ns.length ∧ ns.length ≤ 12
  · refine ⟨hI.2, fun j hj => ?_⟩
    by_cases hf : formP (ns.getD j default) j ins.length
    · exact hf
    · rw [shM_n (shTo_none (shTo_form hf) _ (by omega))] at h; cases h
  · rw [shM_f hI] at h; cases h
def incAt (us : List Int) (i : Int) : List Int := us.set i.toNat (IntKind.i64.wrap (us.getD i.toNat 0 + 1))
def usN (us : List Int) (x : Nd) : List Int := if pcN x.op = 0 then us else if pcN x.op = 1 then incAt us x.a else incAt (incAt us x.a) x.b
theorem incAt_length (us : List Int) (i : Int) : (incAt us i).length = us.length := by simp [incAt]
theorem usN_length (us : List Int) (x : Nd) : (usN us x).length = us.length := by
  unfold usN; split
  · rfl
  · split <;> simp [incAt_length]
def usTo (ns : List Nd) : Nat → List Int
  | 0 => List.replicate ns.length 0
  | k + 1 => usN (usTo ns k) (ns.getD k default)
theorem usTo_length (ns : List Nd) : ∀ k, (usTo ns k).length = ns.length
  | 0 => by simp [usTo]
  | k + 1 => by rw [usTo, usN_length, usTo_length ns k]
def usL (xss : List (List Int)) (ns : List Nd) : List Int := if (shM xss ns).2 = true then usTo ns ns.length else []
theorem retLM {env : List AV} {rows : List Row} {ctr τ ver : Nat} {t : TypeId} {zs zs' : List Int} {r : Row} {n : Nat} (hz : zs' = zs) (hr : rows[τ]? = some r) (hv : r.ver = ver) (e : r = ⟨ver, t, 1, zs.map (.int .i64)⟩) (hn : n = zs.length) :
    RetB ⟨env, rows, ctr, 0⟩ [] (fun r ic news => r = .ref 0 0 0 zs'.length ∧ ic = [] ∧ news = [⟨0, t, 1, zs'.map (.int .i64)⟩]) (.ref τ ver 0 n) := by
  subst hz; exact retL hr hv e hn
attribute [local irreducible] aPlan aGet aIf aLoop aCall RetB NextB CallB CallG aCut aSet aAppend
def sUses : CSpec := fnL (ι := Nat × List (List Int) × List Nd) 3 (fun | (c, xss, ns) => [.agg [.sl c xss.length (xss.map (slI c)), .sl c ns.length (ns.flatMap (ndC c))]]) (fun | (_, _, ns) => eP ns) (fun | (_, xss, ns) => usL xss ns)
end Go.Proofs.Ytjmdhfjemaoebaa

/- Chapter 3: UsesOf of the program. -/
namespace Go.Proofs.Ytjmdhfjemaoebaa
set_option maxRecDepth 20000
open Go.RowKit Go.Am
set_option linter.unusedSimpArgs false
attribute [local irreducible] aPlan aGet aIf aLoop aCall RetB NextB CallB CallG aCut aSet aAppend

def usP (us : List Int) (x : Nd) : Nat → List Int
  | 0 => us
  | j + 1 => incAt (usP us x j) (([x.a, x.b] : List Int).getD j 0)
theorem usP_length (us : List Int) (x : Nd) : ∀ j, (usP us x j).length = us.length
  | 0 => rfl
  | j + 1 => by rw [usP, incAt_length, usP_length us x j]
theorem usP_all {us : List Int} {x : Nd} {j : Nat} (h : (j : Int) = pcN x.op) : usN us x = usP us x j := by
  rcases pcN_cases x.op with ⟨h1, -⟩ | ⟨h1, -⟩ | ⟨h1, -⟩
  · have : j = 0 := by omega
    subst this; unfold usN; rw [if_pos h1]; rfl
  · have : j = 1 := by omega
    subst this; unfold usN; rw [if_neg (by omega), if_pos h1]; rfl
  · have : j = 2 := by omega
    subst this; unfold usN; rw [if_neg (by omega), if_neg (by omega)]; rfl
theorem parts_in {x : Nd} {k n : Nat} {m : Int} (hf : formP x k m) (hk : k < n) : ∀ j : Nat, (j : Int) < pcN x.op → 0 ≤ ([x.a, x.b] : List Int).getD j 0 ∧ ([x.a, x.b] : List Int).getD j 0 < n := by
  obtain ⟨f1, f2, f3, f4, f5, f6, f7⟩ := hf
  intro j hj
  rcases pcN_cases x.op with ⟨h1, h2⟩ | ⟨h1, h2⟩ | ⟨h1, h2, h3⟩
  · omega
  · have : j = 0 := by omega
    subst this
    show 0 ≤ x.a ∧ x.a < n
    omega
  · have : j = 0 ∨ j = 1 := by omega
    rcases this with rfl | rfl
    · show 0 ≤ x.a ∧ x.a < n
      omega
    · show 0 ≤ x.b ∧ x.b < n
      omega
theorem pcN_le2 (op : Int) : pcN op ≤ 2 ∧ 0 ≤ pcN op := by rcases pcN_cases op with h | h | h <;> omega
theorem usL_length (xss : List (List Int)) (ns : List Nd) : (usL xss ns).length ≤ 12 := by
  unfold usL; split
  · rename_i h
    have := (shM_form h).1
    rw [usTo_length]; exact this.2
  · exact Nat.zero_le _
end Go.Proofs.Ytjmdhfjemaoebaa

/- Chapter 7: degrees. -/
namespace Go.Proofs.Ytjmdhfjemaoebaa
set_option maxRecDepth 20000
open Go.RowKit Go.Am
set_option linter.unusedSimpArgs false
/-- The degree of a node, of those ahead of it. -/
def dgN (ds : List Int) (x : Nd) : Int :=
  if x.op = 0 then 1 else if x.op = 1 then 0
  else if x.op = 4 ∨ x.op = 12 then IntKind.i64.wrap (ds.getD x.a.toNat 0 + ds.getD x.b.toNat 0)
  else if twoP3 x.op ∧ ds.getD x.a.toNat 0 < ds.getD x.b.toNat 0 then ds.getD x.b.toNat 0 else ds.getD x.a.toNat 0
theorem dgN_0 {ds : List Int} {x : Nd} (h : x.op = 0) : dgN ds x = 1 := if_pos h
theorem dgN_1 {ds : List Int} {x : Nd} (h : x.op = 1) : dgN ds x = 0 := by unfold dgN; rw [if_neg (by omega), if_pos h]
theorem dgN_m {ds : List Int} {x : Nd} (h : x.op = 4 ∨ x.op = 12) : dgN ds x = IntKind.i64.wrap (ds.getD x.a.toNat 0 + ds.getD x.b.toNat 0) := by unfold dgN; rw [if_neg (by omega), if_neg (by omega), if_pos h]
theorem dgN_b {ds : List Int} {x : Nd} (h0 : ¬ (x.op = 0 ∨ x.op = 1)) (h : ¬ (x.op = 4 ∨ x.op = 12)) (ht : twoP3 x.op) (hl : ds.getD x.a.toNat 0 < ds.getD x.b.toNat 0) : dgN ds x = ds.getD x.b.toNat 0 := by unfold dgN; rw [if_neg (by omega), if_neg (by omega), if_neg h, if_pos ⟨ht, hl⟩]
theorem dgN_a {ds : List Int} {x : Nd} (h0 : ¬ (x.op = 0 ∨ x.op = 1)) (h : ¬ (x.op = 4 ∨ x.op = 12)) (ht : ¬ (twoP3 x.op ∧ ds.getD x.a.toNat 0 < ds.getD x.b.toNat 0)) : dgN ds x = ds.getD x.a.toNat 0 := by unfold dgN; rw [if_neg (by omega), if_neg (by omega), if_neg h, if_neg ht]
def dgTo (ns : List Nd) : Nat → List Int
  | 0 => []
  | k + 1 => dgTo ns k ++ [dgN (dgTo ns k) (ns.getD k default)]
theorem dgTo_length (ns : List Nd) : ∀ k, (dgTo ns k).length = k
  | 0 => rfl
  | k + 1 => by rw [dgTo, List.length_append, dgTo_length ns k]; rfl
def bnd : Nat → Int
  | 0 => 1
  | k + 1 => 2 * bnd k
theorem bnd_pos : ∀ k, 1 ≤ bnd k
  | 0 => Int.le_refl _
  | k + 1 => by have := bnd_pos k; rw [bnd]; omega
theorem bnd_le {k : Nat} (h : k ≤ 12) : bnd k ≤ 4096 := by
  have : k = 0 ∨ k = 1 ∨ k = 2 ∨ k = 3 ∨ k = 4 ∨ k = 5 ∨ k = 6 ∨ k = 7 ∨ k = 8 ∨ k = 9 ∨ k = 10 ∨ k = 11 ∨ k = 12 := by omega
  rcases this with rfl | rfl | rfl | rfl | rfl | rfl | rfl | rfl | rfl | rfl | rfl | rfl | rfl <;> decide
def dgIn (ds : List Int) (m : Int) : Prop := ∀ j, 0 ≤ ds.getD j 0 ∧ ds.getD j 0 ≤ m
theorem getD_out {ds : List Int} {j : Nat} (h : ds.length ≤ j) : ds.getD j 0 = 0 := by
  simp only [List.getD, List.getElem?_eq_none h]; rfl
theorem dg_in (ns : List Nd) : ∀ k, k ≤ 12 → dgIn (dgTo ns k) (bnd k)
  | 0, _ => fun j => by rw [getD_out (by simp [dgTo])]; exact ⟨Int.le_refl _, by decide⟩
  | k + 1, hk => fun j => by
    have ih := dg_in ns k (by omega)
    have hb := bnd_pos k
    have hb2 := bnd_le (k := k) (by omega)
    have e : bnd (k + 1) = 2 * bnd k := rfl
    have hl := dgTo_length ns k
    by_cases hj : j < k + 1
    · show 0 ≤ (dgTo ns k ++ [dgN (dgTo ns k) (ns.getD k default)]).getD j 0 ∧ (dgTo ns k ++ [dgN (dgTo ns k) (ns.getD k default)]).getD j 0 ≤ _
      rw [getD_snoc hl hj]
      split
      · have ha := ih (ns.getD k default).a.toNat
        have hb' := ih (ns.getD k default).b.toNat
        unfold dgN
        repeat' split
        all_goals (first | omega | (rw [IntWalk.i64_in _ (by omega)]; omega))
      · have := ih j
        omega
    · rw [getD_out (by rw [dgTo_length]; omega)]; omega
def dgM (xss : List (List Int)) (ns : List Nd) : Int := if smP xss ns then (dgTo ns ns.length).getD (ns.length - 1) 0 else -1
theorem dgM_t {xss : List (List Int)} {ns : List Nd} (h : smP xss ns) : dgM xss ns = (dgTo ns ns.length).getD (ns.length - 1) 0 := if_pos h
theorem dgM_f {xss : List (List Int)} {ns : List Nd} (h : ¬ smP xss ns) : dgM xss ns = -1 := if_neg h
end Go.Proofs.Ytjmdhfjemaoebaa
