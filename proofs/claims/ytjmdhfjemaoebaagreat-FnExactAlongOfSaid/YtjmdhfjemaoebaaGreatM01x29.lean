import Derived.Test.YtjmdhfjemaoebaaGreatM01x28
import Derived.Test.YtjmdhfjemaoebaaGreatM01x26
namespace Go.Proofs.YtjmdhfjemaoebaaGreat
set_option maxRecDepth 20000
open Go.RowKit Go.Am Go.WideShapes Go.ChangeShapes
theorem uNds : Tryz.prog.underlying 23 = some (.slice 90) := by kernel_rfl
theorem cell_nds1 : Tryz.prog.cellsOf 23 = 1 := by kernel_rfl
theorem cell_nd4 : Tryz.prog.cellsOf 90 = 4 := by kernel_rfl
theorem cell_ex2 : Tryz.prog.cellsOf 25 = 2 := by kernel_rfl
theorem nodeFs : fieldsAre Tryz.prog 90 [(3, 0), (3, 1), (3, 2), (38, 3)] = true := by kernel_rfl
theorem exprFs : fieldsAre Tryz.prog 25 [(22, 0), (23, 1)] = true := by kernel_rfl
theorem structEx : ∃ fs, Tryz.prog.underlying 25 = some (.struct fs) := by
  have h := exprFs
  unfold fieldsAre at h
  split at h
  · exact ⟨_, by assumption⟩
  · cases h
theorem getD_wf {zs : List Int} (h : ∀ z ∈ zs, (Lit.int .i64 z).wf = true) : wfL zs := fun j => by
  by_cases hj : j < zs.length
  · simp only [List.getD, List.getElem?_eq_getElem hj, Option.getD_some]; exact h _ (List.getElem_mem hj)
  · simp only [List.getD, List.getElem?_eq_none (show zs.length ≤ j by omega)]; rfl
theorem cells_nd (us : List AV) (h : CellsOk Tryz.prog 90 us) : ∃ n : Nd, us = ndC 1 n ∧ wfL n.l := by
  obtain ⟨hl, hf⟩ := fields_ok nodeFs h
  rw [cell_nd4] at hl
  match us, hl with
  | [a, b, c, d], _ =>
    have h0 := hf (3, 0) (by simp)
    have h1 := hf (3, 1) (by simp)
    have h2 := hf (3, 2) (by simp)
    have h3 := hf (38, 3) (by simp)
    simp only [cell_int1, cell_ints1] at h0 h1 h2 h3
    obtain ⟨n0, e0, -⟩ := cells_int uInt h0
    obtain ⟨n1, e1, -⟩ := cells_int uInt h1
    obtain ⟨n2, e2, -⟩ := cells_int uInt h2
    obtain ⟨zs, e3, hw⟩ := cellsInts uInts uInt h3
    simp at e0 e1 e2 e3
    exact ⟨⟨n0, n1, n2, zs⟩, by rw [e0, e1, e2, e3]; rfl, getD_wf hw⟩
theorem argE {av : AV} (h : ArgR Tryz.prog 25 av) : ∃ (xss : List (List Int)) (ns : List Nd), av = .agg [.sl 1 xss.length (xss.map (slI 1)), .sl 1 ns.length (ns.flatMap (ndC 1))] ∧ ∀ n ∈ ns, wfL n.l := by
  obtain ⟨fs, hu⟩ := structEx
  unfold ArgR at h
  rw [hu] at h
  obtain ⟨us, rfl, h⟩ := h
  obtain ⟨hl, hf⟩ := fields_ok exprFs h
  rw [cell_ex2] at hl
  match us, hl with
  | [a, b], _ =>
    have h0 := hf (22, 0) (by simp)
    have h1 := hf (23, 1) (by simp)
    simp only [cell_iis1, cell_nds1] at h0 h1
    obtain ⟨xss, e0, -⟩ := cells_slice (f := fun xs => [slI 1 xs]) (q := fun _ => True) uIIs h0 fun us hus => by
      obtain ⟨zs, e, -⟩ := cellsInts uInts uInt hus
      exact ⟨zs, e, trivial⟩
    obtain ⟨ns, e1, hw⟩ := cells_slice uNds h1 cells_nd
    have em := flat_one (slI 1) xss
    simp at e0 e1
    exact ⟨xss, ns, by rw [e0, e1, em], hw⟩
theorem eP_of {xss : List (List Int)} {ns : List Nd} (hs : eSize xss ns ≤ 1048576) (hw : ∀ n ∈ ns, wfL n.l) : eP ns := fun j hj => by
  have h1 := len_le_ntot hj
  unfold eSize at hs
  refine ⟨by omega, ?_⟩
  have : ns.getD j default ∈ ns := by simp only [List.getD, List.getElem?_eq_getElem hj, Option.getD_some]; exact List.getElem_mem hj
  exact hw _ this
end Go.Proofs.YtjmdhfjemaoebaaGreat
namespace Go.Proofs.YtjmdhfjemaoebaaGreat
set_option maxRecDepth 20000
open Go.RowKit Go.Am Go.WideShapes Go.ChangeShapes
theorem uTes : Tryz.prog.underlying 36 = some (.slice 50) := by kernel_rfl
theorem cell_te2 : Tryz.prog.cellsOf 50 = 2 := by kernel_rfl
theorem tensFs : fieldsAre Tryz.prog 50 [(38, 0), (38, 1)] = true := by kernel_rfl
theorem cells_tn (us : List AV) (h : CellsOk Tryz.prog 50 us) : ∃ n : T2, us = tnC 1 n ∧ True := by
  obtain ⟨hl, hf⟩ := fields_ok tensFs h
  rw [cell_te2] at hl
  match us, hl with
  | [a, b], _ =>
    have h0 := hf (38, 0) (by simp)
    have h1 := hf (38, 1) (by simp)
    simp only [cell_ints1] at h0 h1
    obtain ⟨xs, e0, -⟩ := cellsInts uInts uInt h0
    obtain ⟨zs, e1, -⟩ := cellsInts uInts uInt h1
    simp at e0 e1
    exact ⟨(xs, zs), by rw [e0, e1]; rfl, trivial⟩
theorem argTs {av : AV} (h : ArgR Tryz.prog 36 av) : ∃ ts : List T2, av = .sl 1 ts.length (ts.flatMap (tnC 1)) := by
  unfold ArgR at h
  rw [uTes] at h
  obtain ⟨ts, e, -⟩ := cells_slice uTes h cells_tn
  exact ⟨ts, by simpa using e⟩
end Go.Proofs.YtjmdhfjemaoebaaGreat
namespace Go.Proofs.YtjmdhfjemaoebaaGreat
set_option maxRecDepth 20000
open Go.RowKit Go.Am
set_option linter.unusedSimpArgs false
attribute [local irreducible] aPlan aGet aIf aLoop aCall RetB NextB CallB CallG aCut aSet aAppend
abbrev t0 : T2 := ([], [])
def inK (xss : List (List Int)) (ts : List T2) (j : Nat) : Prop := tensorOk (ts.getD j t0).1 (ts.getD j t0).2 = true ∧ (ts.getD j t0).1 = xss.getD j []
instance (xss : List (List Int)) (ts : List T2) (j : Nat) : Decidable (inK xss ts j) := by unfold inK; infer_instance
def inP (xss : List (List Int)) (ns : List Nd) (ts : List T2) : Prop := (shM xss ns).2 = true ∧ ts.length = xss.length ∧ ∀ j, j < ts.length → inK xss ts j
instance (xss : List (List Int)) (ns : List Nd) (ts : List T2) : Decidable (inP xss ns ts) := by unfold inP; infer_instance
theorem inP_f {xss : List (List Int)} {ns : List Nd} {ts : List T2} (h : ¬ inP xss ns ts) : AV.bool false = AV.bool (decide (inP xss ns ts)) := congrArg AV.bool (decide_eq_false h).symm
theorem inP_t {xss : List (List Int)} {ns : List Nd} {ts : List T2} (h : inP xss ns ts) : AV.bool true = AV.bool (decide (inP xss ns ts)) := congrArg AV.bool (decide_eq_true h).symm
def sInputsOk : CSpec := fnS (ι := Nat × List (List Int) × List Nd × Nat × List T2) (fun | (c, xss, ns, d, ts) => [.agg [.sl c xss.length (xss.map (slI c)), .sl c ns.length (ns.flatMap (ndC c))], .sl d ts.length (ts.flatMap (tnC d))]) (fun | (_, _, ns, _, _) => eP ns) (fun | (_, xss, ns, _, ts) => .bool (decide (inP xss ns ts)))
set_option maxHeartbeats 4000000 in
theorem iInputsOk_sound : Sound Tryz.prog 58 sInputsOk := by
  refine sound_of Tryz.func58 rfl (enters_of Tryz.func58 (by kernel_rfl) (by kernel_rfl)) ?_
  rintro ⟨c, xss, ns, d, ts⟩ hpre
  have hE : eP ns := hpre
  have hmax : maxLen = 9223372036854775807 := rfl
  cases hM : (shM xss ns).2 with
  | false =>
    conv => whnf
    repeat' (first
      | ((first | refine plan_in (id := 6) [0, 1, 2, 3, 4, 5, 6, 7, 8, 9, 10, 11, 12, 13] (by kernel_rfl) (by kernel_rfl) ?_ | refine aIf_t ?_ | refine aIf_f ?_ | refine load_same ?_ | refine And.intro rfl (And.intro (List.cons_ne_nil _ _) ?_) | refine And.intro (Nat.le_of_ble_eq_true rfl) ?_ | refine callG_t ?_ | refine append_same ?_ | refine And.intro (pureL_ii _ _) ?_ | refine And.intro (pureL_nd _ _) ?_); conv => whnf) | (refine iExprOk_call (by first | omega | assumption | (refine ⟨?_, ?_⟩ <;> first | assumption | omega) | (refine ⟨?_, ?_, ?_⟩ <;> first | assumption | omega)) ?_; conv => whnf) | ((first | refine takeN_in ?_ | refine And.intro (by kernel_rfl) ?_ | refine aIf_ff (by assumption) ?_); conv => whnf) | refine aIf_eqf ?_
      | refine aIf_not ?_)
    exact retS rfl (inP_f fun h => by have := h.1; rw [hM] at this; cases this)
  | true =>
    by_cases hl : ts.length = xss.length
    · conv => whnf
      repeat' (first
        | ((first | refine plan_in (id := 6) [0, 1, 2, 3, 4, 5, 6, 7, 8, 9, 10, 11, 12, 13] (by kernel_rfl) (by kernel_rfl) ?_ | refine aIf_t ?_ | refine aIf_f ?_ | refine fun (_ : _ ≤ maxLen) => ?_ | refine aGet_in rfl ?_ | refine load_same ?_ | refine And.intro rfl (And.intro (List.cons_ne_nil _ _) ?_) | refine And.intro (Nat.le_of_ble_eq_true rfl) ?_ | refine callG_t ?_ | refine append_same ?_ | refine And.intro (pureL_ii _ _) ?_ | refine And.intro (pureL_nd _ _) ?_); conv => whnf) | (refine iExprOk_call (by first | omega | assumption | (refine ⟨?_, ?_⟩ <;> first | assumption | omega) | (refine ⟨?_, ?_, ?_⟩ <;> first | assumption | omega)) ?_; conv => whnf) | ((first | refine takeN_in ?_ | refine And.intro (by kernel_rfl) ?_ | refine aIf_tt (by assumption) ?_); conv => whnf) | refine aIf_eqf ?_
        | refine aIf_not ?_ | (refine aIf_dec (fun _ => ?_) (fun _ => ?_) <;> conv => whnf))
      all_goals (first | (exfalso; omega) | skip)
      refine loop_u (ι := Nat) [false, false, true, false, false, false, false, false, false, false, false, false, false, false, false, false, false, false, true, true, true, false, false, false, false, false, false, false, false, false, false, false, false, false, false, false, false, false, false, false] (fun k => [(20, .int .i64 k)]) (fun _ => []) (fun k => k ≤ ts.length ∧ ∀ j, j < k → inK xss ts j) (fun k => ts.length - k) (0) ⟨Nat.zero_le _, fun j hj => absurd hj (Nat.not_lt_zero _)⟩ ?_ ?_
      · conv => whnf
        repeat' (first
          | exact trivial | exact rfl
          | exact pureL_ii _ _ | exact pureL_nd _ _
          | exact pureL_tn _ _ | refine Or.inr ?_
          | refine And.intro ?_ ?_ | exact Nat.le_of_ble_eq_true rfl)
      · rintro k ⟨hk, hall⟩
        have hk : k ≤ ts.length := hk
        have hall : ∀ j, j < k → inK xss ts j := hall
        by_cases hlt : k < ts.length
        · cases hT : tensorOk (ts.getD k t0).1 (ts.getD k t0).2 with
          | false =>
            conv => whnf
            repeat' (first
              | ((first | refine plan_in (id := 6) [0, 1, 2, 3, 4, 5, 6, 7, 8, 9, 10, 11, 12, 13] (by kernel_rfl) (by kernel_rfl) ?_ | refine aIf_t ?_ | refine aIf_f ?_ | refine And.intro (by omega) ?_ | refine load_same ?_ | refine And.intro (Nat.le_of_ble_eq_true rfl) ?_ | refine iTensorOk_call ?_ | refine append_same ?_ | refine part_tn_n (by omega) ?_ | refine takeN_in ?_ | refine And.intro (pureL_ints _ _) ?_ | refine set_force ?_ | refine And.intro (by kernel_rfl) ?_ | refine aIf_ff (by assumption) ?_); conv => whnf) | refine aIf_eqf ?_
              | refine aIf_not ?_ | (refine aIf_dec (fun _ => ?_) (fun _ => ?_) <;> conv => whnf))
            all_goals (first | (exfalso; omega) | contradiction | skip)
            exact retS rfl (inP_f fun h => by have := (h.2.2 k hlt).1; rw [hT] at this; cases this)
          | true =>
            by_cases hS : (ts.getD k t0).1 = xss.getD k []
            · conv => whnf
              repeat' (first
                | ((first | refine plan_in (id := 6) [0, 1, 2, 3, 4, 5, 6, 7, 8, 9, 10, 11, 12, 13] (by kernel_rfl) (by kernel_rfl) ?_ | refine aIf_t ?_ | refine aIf_f ?_ | refine aGet_in rfl ?_ | refine And.intro (by omega) ?_ | refine load_same ?_ | refine And.intro (Nat.le_of_ble_eq_true rfl) ?_ | refine iTensorOk_call ?_ | refine append_same ?_ | refine get_ii_n (by omega) ?_ | refine part_tn_n (by omega) ?_ | refine takeN_in ?_ | refine And.intro (pureL_ints _ _) ?_ | refine sameNums_call ?_ | refine set_force ?_ | refine And.intro (by kernel_rfl) ?_ | refine aIf_tt (by assumption) ?_); conv => whnf) | refine aIf_eqf ?_
                | refine aIf_not ?_ | (refine aIf_dec (fun _ => ?_) (fun _ => ?_) <;> conv => whnf))
              all_goals (first | (exfalso; omega) | contradiction | skip)
              refine next_u (k + 1) (show ts.length - (k + 1) < ts.length - k by omega) ⟨(by omega : k + 1 ≤ ts.length), fun j hj => ?_⟩ ?_
              · rcases Nat.lt_succ_iff_lt_or_eq.1 hj with h | rfl
                · exact hall j h
                · exact ⟨hT, hS⟩
              · conv => whnf
                repeat' (first
                  | exact trivial | exact rfl
                  | exact pureL_ii _ _ | exact pureL_nd _ _
                  | exact pureL_tn _ _ | refine Or.inr ?_
                  | refine And.intro ?_ ?_ | exact Nat.le_of_ble_eq_true rfl
                  | exact int_eq (by rw [IntWalk.i64_in _ (by omega)] <;> omega))
            · conv => whnf
              repeat' (first
                | ((first | refine plan_in (id := 6) [0, 1, 2, 3, 4, 5, 6, 7, 8, 9, 10, 11, 12, 13] (by kernel_rfl) (by kernel_rfl) ?_ | refine aIf_t ?_ | refine aIf_f ?_ | refine aGet_in rfl ?_ | refine And.intro (by omega) ?_ | refine load_same ?_ | refine And.intro (Nat.le_of_ble_eq_true rfl) ?_ | refine iTensorOk_call ?_ | refine append_same ?_ | refine get_ii_n (by omega) ?_ | refine part_tn_n (by omega) ?_ | refine takeN_in ?_ | refine And.intro (pureL_ints _ _) ?_ | refine sameNums_call ?_ | refine set_force ?_ | refine And.intro (by kernel_rfl) ?_ | refine aIf_tt (by assumption) ?_); conv => whnf) | refine aIf_eqf ?_
                | refine aIf_not ?_ | (refine aIf_dec (fun _ => ?_) (fun _ => ?_) <;> conv => whnf))
              all_goals (first | (exfalso; omega) | contradiction | skip)
              exact retS rfl (inP_f fun h => hS (h.2.2 k hlt).2)
        · conv => whnf
          repeat' (first
            | ((first | refine plan_in (id := 6) [0, 1, 2, 3, 4, 5, 6, 7, 8, 9, 10, 11, 12, 13] (by kernel_rfl) (by kernel_rfl) ?_ | refine aIf_t ?_ | refine aIf_f ?_ | refine aGet_in rfl ?_ | refine And.intro (by omega) ?_ | refine load_same ?_ | refine iTensorOk_call ?_ | refine append_same ?_ | refine get_ii_n (by omega) ?_ | refine part_tn_n (by omega) ?_ | refine takeN_in ?_ | refine sameNums_call ?_ | refine set_force ?_); conv => whnf) | refine aIf_eqf ?_
            | refine aIf_not ?_ | (refine aIf_dec (fun _ => ?_) (fun _ => ?_) <;> conv => whnf)
            | (refine aIf_in (fun _ => ?_) (fun _ => ?_) <;> conv => whnf))
          all_goals (first | (exfalso; omega) | contradiction | skip)
          exact retS rfl (inP_t ⟨hM, hl, fun j hj => hall j (by omega)⟩)
    · conv => whnf
      repeat' (first
        | ((first | refine plan_in (id := 6) [0, 1, 2, 3, 4, 5, 6, 7, 8, 9, 10, 11, 12, 13] (by kernel_rfl) (by kernel_rfl) ?_ | refine aIf_t ?_ | refine aIf_f ?_ | refine fun (_ : _ ≤ maxLen) => ?_ | refine aGet_in rfl ?_ | refine load_same ?_ | refine And.intro rfl (And.intro (List.cons_ne_nil _ _) ?_) | refine And.intro (Nat.le_of_ble_eq_true rfl) ?_ | refine callG_t ?_ | refine append_same ?_ | refine And.intro (pureL_ii _ _) ?_ | refine And.intro (pureL_nd _ _) ?_); conv => whnf) | (refine iExprOk_call (by first | omega | assumption | (refine ⟨?_, ?_⟩ <;> first | assumption | omega) | (refine ⟨?_, ?_, ?_⟩ <;> first | assumption | omega)) ?_; conv => whnf) | ((first | refine takeN_in ?_ | refine And.intro (by kernel_rfl) ?_ | refine aIf_tt (by assumption) ?_); conv => whnf) | refine aIf_eqf ?_
        | refine aIf_not ?_ | (refine aIf_dec (fun _ => ?_) (fun _ => ?_) <;> conv => whnf))
      all_goals (first | (exfalso; omega) | contradiction | exact retS rfl (inP_f fun h => hl h.2.1))
set_option maxHeartbeats 4000000 in
theorem sInputsOk_sound : Sound Tryz.prog 52 sInputsOk := by
  refine sound_of Tryz.func52 rfl (enters_of Tryz.func52 (by kernel_rfl) (by kernel_rfl)) ?_
  rintro ⟨c, xss, ns, d, ts⟩ hpre
  have hE : eP ns := hpre
  have hmax : maxLen = 9223372036854775807 := rfl
  cases hM : (shM xss ns).2 with
  | false =>
    conv => whnf
    repeat' (first
      | ((first | refine plan_in (id := 6) [0, 1, 2, 3, 4, 5, 6, 7, 8, 9, 10, 11, 12, 13, 14, 15, 16, 17, 18, 19] (by kernel_rfl) (by kernel_rfl) ?_ | refine aIf_t ?_ | refine aIf_f ?_ | refine load_same ?_ | refine And.intro rfl (And.intro (List.cons_ne_nil _ _) ?_) | refine And.intro (Nat.le_of_ble_eq_true rfl) ?_ | refine callG_t ?_ | refine append_same ?_ | refine And.intro (pureL_ii _ _) ?_ | refine And.intro (pureL_nd _ _) ?_); conv => whnf) | (refine sExprOk_call (by first | omega | assumption | (refine ⟨?_, ?_⟩ <;> first | assumption | omega) | (refine ⟨?_, ?_, ?_⟩ <;> first | assumption | omega)) ?_; conv => whnf) | ((first | refine takeN_in ?_ | refine And.intro (by kernel_rfl) ?_ | refine aIf_ff (by assumption) ?_); conv => whnf) | refine aIf_eqf ?_
      | refine aIf_not ?_)
    exact retS rfl (inP_f fun h => by have := h.1; rw [hM] at this; cases this)
  | true =>
    by_cases hl : ts.length = xss.length
    · conv => whnf
      repeat' (first
        | ((first | refine plan_in (id := 6) [0, 1, 2, 3, 4, 5, 6, 7, 8, 9, 10, 11, 12, 13, 14, 15, 16, 17, 18, 19] (by kernel_rfl) (by kernel_rfl) ?_ | refine aIf_t ?_ | refine aIf_f ?_ | refine fun (_ : _ ≤ maxLen) => ?_ | refine aGet_in rfl ?_ | refine load_same ?_ | refine And.intro rfl (And.intro (List.cons_ne_nil _ _) ?_) | refine And.intro (Nat.le_of_ble_eq_true rfl) ?_ | refine callG_t ?_ | refine append_same ?_ | refine And.intro (pureL_ii _ _) ?_ | refine And.intro (pureL_nd _ _) ?_); conv => whnf) | (refine sExprOk_call (by first | omega | assumption | (refine ⟨?_, ?_⟩ <;> first | assumption | omega) | (refine ⟨?_, ?_, ?_⟩ <;> first | assumption | omega)) ?_; conv => whnf) | ((first | refine takeN_in ?_ | refine And.intro (by kernel_rfl) ?_ | refine aIf_tt (by assumption) ?_); conv => whnf) | refine aIf_eqf ?_
        | refine aIf_not ?_ | (refine aIf_dec (fun _ => ?_) (fun _ => ?_) <;> conv => whnf))
      all_goals (first | (exfalso; omega) | skip)
      refine loop_u (ι := Nat) [false, true, true, false, false, true, false, false, false, false, false, false, false, false, false, false, false, false, false, false, false, false, false, false, false, false, false, false, false, false, false, false, false, false, false, false, false, false, false, false, false, false, false] (fun k => [(5, .int .i64 k)]) (fun _ => []) (fun k => k ≤ ts.length ∧ ∀ j, j < k → inK xss ts j) (fun k => ts.length - k) (0) ⟨Nat.zero_le _, fun j hj => absurd hj (Nat.not_lt_zero _)⟩ ?_ ?_
      · conv => whnf
        repeat' (first
          | exact trivial | exact rfl
          | exact pureL_ii _ _ | exact pureL_nd _ _
          | exact pureL_tn _ _ | refine Or.inr ?_
          | refine And.intro ?_ ?_ | exact Nat.le_of_ble_eq_true rfl)
      · rintro k ⟨hk, hall⟩
        have hk : k ≤ ts.length := hk
        have hall : ∀ j, j < k → inK xss ts j := hall
        by_cases hlt : k < ts.length
        · cases hT : tensorOk (ts.getD k t0).1 (ts.getD k t0).2 with
          | false =>
            conv => whnf
            repeat' (first
              | ((first | refine plan_in (id := 6) [0, 1, 2, 3, 4, 5, 6, 7, 8, 9, 10, 11, 12, 13, 14, 15, 16, 17, 18, 19] (by kernel_rfl) (by kernel_rfl) ?_ | refine aIf_t ?_ | refine aIf_f ?_ | refine fun (_ : _ ≤ maxLen) => ?_ | refine And.intro (by omega) ?_ | refine sTensorOk_call ?_ | refine append_same ?_ | refine part_tn_n (by omega) ?_ | refine And.intro (pureL_ints _ _) ?_ | refine aIf_ff (by assumption) ?_); conv => whnf) | refine aIf_eqf ?_
              | refine aIf_not ?_ | (refine aIf_dec (fun _ => ?_) (fun _ => ?_) <;> conv => whnf))
            all_goals (first | (exfalso; omega) | contradiction | skip)
            exact retS rfl (inP_f fun h => by have := (h.2.2 k hlt).1; rw [hT] at this; cases this)
          | true =>
            by_cases hS : (ts.getD k t0).1 = xss.getD k []
            · conv => whnf
              repeat' (first
                | ((first | refine plan_in (id := 6) [0, 1, 2, 3, 4, 5, 6, 7, 8, 9, 10, 11, 12, 13, 14, 15, 16, 17, 18, 19] (by kernel_rfl) (by kernel_rfl) ?_ | refine aIf_t ?_ | refine aIf_f ?_ | refine fun (_ : _ ≤ maxLen) => ?_ | refine aGet_in rfl ?_ | refine And.intro (by omega) ?_ | refine sTensorOk_call ?_ | refine append_same ?_ | refine get_ii_n (by omega) ?_ | refine get_tn_n (by omega) rfl ?_ | refine part_tn_n (by omega) ?_ | refine And.intro (pureL_ints _ _) ?_ | refine l1Same_call ?_ | refine aIf_tt (by assumption) ?_); conv => whnf) | refine aIf_eqf ?_
                | refine aIf_not ?_ | (refine aIf_dec (fun _ => ?_) (fun _ => ?_) <;> conv => whnf))
              all_goals (first | (exfalso; omega) | contradiction | skip)
              refine next_u (k + 1) (show ts.length - (k + 1) < ts.length - k by omega) ⟨(by omega : k + 1 ≤ ts.length), fun j hj => ?_⟩ ?_
              · rcases Nat.lt_succ_iff_lt_or_eq.1 hj with h | rfl
                · exact hall j h
                · exact ⟨hT, hS⟩
              · conv => whnf
                repeat' (first
                  | exact trivial | exact rfl
                  | exact pureL_ii _ _ | exact pureL_nd _ _
                  | exact pureL_tn _ _ | refine Or.inr ?_
                  | refine And.intro ?_ ?_ | exact Nat.le_of_ble_eq_true rfl
                  | exact int_eq (by rw [IntWalk.i64_in _ (by omega)] <;> omega))
            · conv => whnf
              repeat' (first
                | ((first | refine plan_in (id := 6) [0, 1, 2, 3, 4, 5, 6, 7, 8, 9, 10, 11, 12, 13, 14, 15, 16, 17, 18, 19] (by kernel_rfl) (by kernel_rfl) ?_ | refine aIf_t ?_ | refine aIf_f ?_ | refine fun (_ : _ ≤ maxLen) => ?_ | refine aGet_in rfl ?_ | refine And.intro (by omega) ?_ | refine sTensorOk_call ?_ | refine append_same ?_ | refine get_ii_n (by omega) ?_ | refine get_tn_n (by omega) rfl ?_ | refine part_tn_n (by omega) ?_ | refine And.intro (pureL_ints _ _) ?_ | refine l1Same_call ?_ | refine aIf_tt (by assumption) ?_); conv => whnf) | refine aIf_eqf ?_
                | refine aIf_not ?_ | (refine aIf_dec (fun _ => ?_) (fun _ => ?_) <;> conv => whnf))
              all_goals (first | (exfalso; omega) | contradiction | skip)
              exact retS rfl (inP_f fun h => hS (h.2.2 k hlt).2)
        · conv => whnf
          repeat' (first
            | ((first | refine plan_in (id := 6) [0, 1, 2, 3, 4, 5, 6, 7, 8, 9, 10, 11, 12, 13, 14, 15, 16, 17, 18, 19] (by kernel_rfl) (by kernel_rfl) ?_ | refine aIf_t ?_ | refine aIf_f ?_ | refine fun (_ : _ ≤ maxLen) => ?_ | refine aGet_in rfl ?_ | refine And.intro (by omega) ?_ | refine sTensorOk_call ?_ | refine append_same ?_ | refine get_ii_n (by omega) ?_ | refine get_tn_n (by omega) rfl ?_ | refine part_tn_n (by omega) ?_ | refine l1Same_call ?_); conv => whnf) | refine aIf_eqf ?_
            | refine aIf_not ?_ | (refine aIf_dec (fun _ => ?_) (fun _ => ?_) <;> conv => whnf)
            | (refine aIf_in (fun _ => ?_) (fun _ => ?_) <;> conv => whnf))
          all_goals (first | (exfalso; omega) | contradiction | skip)
          exact retS rfl (inP_t ⟨hM, hl, fun j hj => hall j (by omega)⟩)
    · conv => whnf
      repeat' (first
        | ((first | refine plan_in (id := 6) [0, 1, 2, 3, 4, 5, 6, 7, 8, 9, 10, 11, 12, 13, 14, 15, 16, 17, 18, 19] (by kernel_rfl) (by kernel_rfl) ?_ | refine aIf_t ?_ | refine aIf_f ?_ | refine fun (_ : _ ≤ maxLen) => ?_ | refine aGet_in rfl ?_ | refine load_same ?_ | refine And.intro rfl (And.intro (List.cons_ne_nil _ _) ?_) | refine And.intro (Nat.le_of_ble_eq_true rfl) ?_ | refine callG_t ?_ | refine append_same ?_ | refine And.intro (pureL_ii _ _) ?_ | refine And.intro (pureL_nd _ _) ?_); conv => whnf) | (refine sExprOk_call (by first | omega | assumption | (refine ⟨?_, ?_⟩ <;> first | assumption | omega) | (refine ⟨?_, ?_, ?_⟩ <;> first | assumption | omega)) ?_; conv => whnf) | ((first | refine takeN_in ?_ | refine And.intro (by kernel_rfl) ?_ | refine aIf_tt (by assumption) ?_); conv => whnf) | refine aIf_eqf ?_
        | refine aIf_not ?_ | (refine aIf_dec (fun _ => ?_) (fun _ => ?_) <;> conv => whnf))
      all_goals (first | (exfalso; omega) | contradiction | exact retS rfl (inP_f fun h => hl h.2.1))
theorem sInputsOk_call {c d : Nat} {xss : List (List Int)} {ns : List Nd} {ts : List T2} {env : List AV} {rows : List Row} {ctr low : Nat} {k : AV → St → Prop} (hpre : eP ns) (h : k (.bool (decide (inP xss ns ts))) ⟨env, rows, ctr + 1, low⟩) :
    CallB Tryz.prog 52 ⟨env, rows, ctr, low⟩ [.agg [.sl c xss.length (xss.map (slI c)), .sl c ns.length (ns.flatMap (ndC c))], .sl d ts.length (ts.flatMap (tnC d))] k := callS_in sInputsOk_sound (c, xss, ns, d, ts) hpre rfl h
theorem iInputsOk_call {c d : Nat} {xss : List (List Int)} {ns : List Nd} {ts : List T2} {env : List AV} {rows : List Row} {ctr low : Nat} {k : AV → St → Prop} (hpre : eP ns) (h : k (.bool (decide (inP xss ns ts))) ⟨env, rows, ctr + 1, low⟩) :
    CallB Tryz.prog 58 ⟨env, rows, ctr, low⟩ [.agg [.sl c xss.length (xss.map (slI c)), .sl c ns.length (ns.flatMap (ndC c))], .sl d ts.length (ts.flatMap (tnC d))] k := callS_in iInputsOk_sound (c, xss, ns, d, ts) hpre rfl h
end Go.Proofs.YtjmdhfjemaoebaaGreat
namespace Go.Proofs.YtjmdhfjemaoebaaGreat
set_option maxRecDepth 20000
open Go.RowKit Go.Am
set_option linter.unusedSimpArgs false
attribute [local irreducible] aPlan aGet aIf aLoop aCall RetB NextB CallB CallG aCut aSet aAppend
theorem copyTensor_sound : Sound Tryz.prog 115 (fnT (ι := Nat × List Int × Nat × List Int) 3 (fun | (c, xs, d, zs) => [.agg [.sl c xs.length (xs.map (.int .i64)), .sl d zs.length (zs.map (.int .i64))]]) (fun | (_, xs, _, zs) => xs.length ≤ 1048576 ∧ zs.length ≤ 1048576) (fun | (_, xs, _, _) => xs) (fun | (_, _, _, zs) => zs)) := by
  refine sound_of Tryz.func115 rfl (enters_of Tryz.func115 (by kernel_rfl) (by kernel_rfl)) ?_
  rintro ⟨c, xs, d, zs⟩ hpre
  have hpre : xs.length ≤ 1048576 ∧ zs.length ≤ 1048576 := hpre
  conv => whnf
  repeat' (first
    | ((first | refine plan_in (id := 1) [0, 1, 3, 4, 2, 5, 6, 7] (by kernel_rfl) (by kernel_rfl) ?_ | refine aGet_in rfl ?_ | refine And.intro rfl (And.intro (List.cons_ne_nil _ _) ?_) | refine And.intro (Nat.le_of_ble_eq_true rfl) ?_ | refine copyNums_call (by omega) ?_ | refine append_same ?_ | refine takeN_in ?_ | refine And.intro (pureL_ints _ _) ?_ | refine set_force ?_ | refine And.intro (by kernel_rfl) ?_); conv => whnf))
  refine retT ?_ ?_ ?_ ?_ ?_
  all_goals (first | exact rfl | decide)
theorem copyTensor_call {c d : Nat} {xs zs : List Int} {env : List AV} {rows : List Row} {ctr low : Nat} {k : AV → St → Prop} (hpre : xs.length ≤ 1048576 ∧ zs.length ≤ 1048576)
    (hk : k (.agg [.ref rows.length ctr 0 xs.length, .ref (rows.length + 1) ctr 0 zs.length]) ⟨env, rows ++ [⟨ctr, 3, 1, xs.map (.int .i64)⟩, ⟨ctr, 3, 1, zs.map (.int .i64)⟩], ctr + 1, low⟩) :
    CallB Tryz.prog 115 ⟨env, rows, ctr, low⟩ [.agg [.sl c xs.length (xs.map (.int .i64)), .sl d zs.length (zs.map (.int .i64))]] k := callT_in copyTensor_sound (c, xs, d, zs) hpre hk
def allT (ts : List T2) : Prop := ∀ j, j < ts.length → tensorOk (ts.getD j ([], [])).1 (ts.getD j ([], [])).2 = true
def vlM (x : Nd) (ts vs : List T2) : TM :=
  if x.op = 0 then ((ts.getD x.a.toNat ([], [])).1, (ts.getD x.a.toNat ([], [])).2, true) else if x.op = 1 then ([], [x.a], true)
  else comM x (vs.getD x.a.toNat ([], [])).1 (vs.getD x.a.toNat ([], [])).2 (vs.getD x.b.toNat ([], [])).1 (vs.getD x.b.toNat ([], [])).2
theorem allT_len {ts : List T2} (h : allT ts) {j : Nat} (hj : j < ts.length) : (ts.getD j ([], [])).1.length ≤ 3 ∧ (ts.getD j ([], [])).2.length ≤ 64 := by
  obtain ⟨h1, h2, -⟩ := (tensorOk_iff _ _).1 (h j hj)
  have hc := cnt64 h1 (Nat.le_refl _)
  exact ⟨((shapeOk_iff _).1 h1).1, by omega⟩
def vPre (x : Nd) (ts vs : List T2) : Prop := formP x vs.length ts.length ∧ allT ts ∧ allT vs ∧ x.l.length ≤ 1048576 ∧ wfL x.l
set_option maxHeartbeats 4000000 in
theorem nodeValue_sound : Sound Tryz.prog 76 (fnTB (ι := Nat × Nd × Nat × List T2 × Nat × List T2) 3 (fun | (b, x, d, ts, e, vs) => [.agg [.int .i64 x.op, .int .i64 x.a, .int .i64 x.b, .sl b x.l.length (x.l.map (.int .i64))], .sl d ts.length (ts.flatMap (tnC d)), .sl e vs.length (vs.flatMap (tnC e))]) (fun | (_, x, _, ts, _, vs) => vPre x ts vs) (fun | (_, x, _, ts, _, vs) => vlM x ts vs)) := by
  refine sound_of Tryz.func76 rfl (enters_of Tryz.func76 (by kernel_rfl) (by kernel_rfl)) ?_
  rintro ⟨b, x, d, ts, e, vs⟩ hpre
  obtain ⟨hf, hts, hvs, hxl, hwf⟩ : vPre x ts vs := hpre
  have hmax : maxLen = 9223372036854775807 := rfl
  obtain ⟨f1, f2, f3, f4, f5, f6, f7⟩ := hf
  by_cases o0 : x.op = 0
  · obtain ⟨g1, g2⟩ := f4 o0
    have hl := allT_len hts (show x.a.toNat < ts.length by omega)
    have hM : vlM x ts vs = ((ts.getD x.a.toNat ([], [])).1, (ts.getD x.a.toNat ([], [])).2, true) := if_pos o0
    conv => whnf
    repeat' (first
      | ((first | refine plan_in (id := 6) [0, 1, 2, 3, 4, 5, 6, 7, 8, 9, 10, 11, 12, 13, 14, 15] (by kernel_rfl) (by kernel_rfl) ?_ | refine aGet_in rfl ?_ | refine And.intro (by omega) ?_ | refine load_same ?_ | refine And.intro rfl (And.intro (List.cons_ne_nil _ _) ?_) | refine And.intro (Nat.le_of_ble_eq_true rfl) ?_ | refine callG_t ?_ | refine append_same ?_ | refine part_tn_n (by omega) ?_ | refine part_tn (by omega) ?_); conv => whnf) | (refine copyTensor_call (by constructor <;> omega) ?_; conv => whnf) | (refine comesOf_call (by refine ⟨?_, ?_, ?_, ?_⟩ <;> first | assumption | omega) ?_; conv => whnf) | ((first | refine takeN_in ?_ | refine And.intro (pureL_ints _ _) ?_ | refine set_force ?_ | refine And.intro (by kernel_rfl) ?_); conv => whnf) | (refine aIf_dec (fun _ => ?_) (fun _ => ?_) <;> conv => whnf))
    all_goals (first | (exfalso; omega) | skip)
    refine retTB (hM := hM) ?_ ?_ ?_ ?_ ?_
    all_goals (first | exact rfl | decide | (simp; done))
  · by_cases o1 : x.op = 1
    · have hM : vlM x ts vs = ([], [x.a], true) := by unfold vlM; rw [if_neg o0, if_pos o1]
      conv => whnf
      repeat' (first
        | ((first | refine plan_in (id := 6) [0, 1, 2, 3, 4, 5, 6, 7, 8, 9, 10, 11, 12, 13, 14, 15] (by kernel_rfl) (by kernel_rfl) ?_ | refine aGet_in rfl ?_ | refine And.intro (by omega) ?_ | refine load_same ?_ | refine And.intro rfl (And.intro (List.cons_ne_nil _ _) ?_) | refine And.intro (Nat.le_of_ble_eq_true rfl) ?_ | refine callG_t ?_ | refine append_same ?_ | refine part_tn_n (by omega) ?_); conv => whnf) | (refine copyTensor_call (by constructor <;> omega) ?_; conv => whnf) | (refine comesOf_call (by refine ⟨?_, ?_, ?_, ?_⟩ <;> first | assumption | omega) ?_; conv => whnf) | ((first | refine takeN_in ?_ | refine set_force ?_ | refine And.intro (And.intro (by kernel_rfl) (And.intro rfl (Nat.le_of_ble_eq_true rfl))) ?_ | refine And.intro (by kernel_rfl) ?_); conv => whnf) | (refine aIf_dec (fun _ => ?_) (fun _ => ?_) <;> conv => whnf))
      all_goals (first | (exfalso; omega) | skip)
      refine retTB (hM := hM) ?_ ?_ ?_ ?_ ?_
      all_goals (first | exact rfl | decide | (simp; done))
    · have hM0 : vlM x ts vs = comM x (vs.getD x.a.toNat ([], [])).1 (vs.getD x.a.toNat ([], [])).2 (vs.getD x.b.toNat ([], [])).1 (vs.getD x.b.toNat ([], [])).2 := by unfold vlM; rw [if_neg o0, if_neg o1]
      have ha := f6 (by omega)
      have hb : 0 ≤ x.b ∧ x.b < vs.length := by
        by_cases h2 : (2 ≤ x.op ∧ x.op ≤ 5) ∨ 11 ≤ x.op
        · exact f7 h2
        · have := f3 (by omega); omega
      have hl := allT_len hvs (show x.a.toNat < vs.length by omega)
      have hla : (vs.getD x.a.toNat ([], [])).1.length ≤ 1048576 := by omega
      have hM : vlM x ts vs = ((comM x (vs.getD x.a.toNat ([], [])).1 (vs.getD x.a.toNat ([], [])).2 (vs.getD x.b.toNat ([], [])).1 (vs.getD x.b.toNat ([], [])).2).1, (comM x (vs.getD x.a.toNat ([], [])).1 (vs.getD x.a.toNat ([], [])).2 (vs.getD x.b.toNat ([], [])).1 (vs.getD x.b.toNat ([], [])).2).2.1, (comM x (vs.getD x.a.toNat ([], [])).1 (vs.getD x.a.toNat ([], [])).2 (vs.getD x.b.toNat ([], [])).1 (vs.getD x.b.toNat ([], [])).2).2.2) := by rw [hM0]
      conv => whnf
      repeat' (first
        | ((first | refine plan_in (id := 6) [0, 1, 2, 3, 4, 5, 6, 7, 8, 9, 10, 11, 12, 13, 14, 15] (by kernel_rfl) (by kernel_rfl) ?_ | refine aGet_in rfl ?_ | refine And.intro (by omega) ?_ | refine load_same ?_ | refine And.intro rfl (And.intro (List.cons_ne_nil _ _) ?_) | refine And.intro (Nat.le_of_ble_eq_true rfl) ?_ | refine callG_t ?_ | refine append_same ?_ | refine part_tn_n (by omega) ?_ | refine part_tn (by omega) ?_); conv => whnf) | (refine copyTensor_call (by constructor <;> omega) ?_; conv => whnf) | (refine comesOf_call (by refine ⟨?_, ?_, ?_, ?_⟩ <;> first | assumption | omega) ?_; conv => whnf) | ((first | refine takeN_in ?_ | refine And.intro (pureL_ints _ _) ?_ | refine set_force ?_ | refine And.intro (by kernel_rfl) ?_); conv => whnf) | (refine aIf_dec (fun _ => ?_) (fun _ => ?_) <;> conv => whnf))
      all_goals (first | (exfalso; omega) | skip)
      refine retTB (hM := hM) ?_ ?_ ?_ ?_ ?_
      all_goals (first | exact rfl | decide | (simp; done))
theorem nodeValue_call {b d e : Nat} {x : Nd} {ts vs : List T2} {env : List AV} {rows : List Row} {ctr low : Nat} {k : AV → St → Prop} (hpre : vPre x ts vs)
    (hk : k (.tup [.agg [.ref rows.length ctr 0 (vlM x ts vs).1.length, .ref (rows.length + 1) ctr 0 (vlM x ts vs).2.1.length], .bool (vlM x ts vs).2.2]) ⟨env, rows ++ [⟨ctr, 3, 1, (vlM x ts vs).1.map (.int .i64)⟩, ⟨ctr, 3, 1, (vlM x ts vs).2.1.map (.int .i64)⟩], ctr + 1, low⟩) :
    CallB Tryz.prog 76 ⟨env, rows, ctr, low⟩ [.agg [.int .i64 x.op, .int .i64 x.a, .int .i64 x.b, .sl b x.l.length (x.l.map (.int .i64))], .sl d ts.length (ts.flatMap (tnC d)), .sl e vs.length (vs.flatMap (tnC e))] k := callTB_in nodeValue_sound (b, x, d, ts, e, vs) hpre hk
end Go.Proofs.YtjmdhfjemaoebaaGreat
namespace Go.Proofs.YtjmdhfjemaoebaaGreat
set_option maxRecDepth 20000
open Go.RowKit Go.Am
set_option linter.unusedSimpArgs false
theorem shTo_form {ins : List (List Int)} {ns : List Nd} {j : Nat} (hf : ¬ formP (ns.getD j default) j ins.length) : shTo ins ns (j + 1) = none := by
  rw [shTo]
  cases shTo ins ns j with
  | none => rfl
  | some s => exact if_neg fun h => hf h.1
theorem shM_form {ins : List (List Int)} {ns : List Nd} (h : (shM ins ns).2 = true) : (1 ≤ ns.length ∧ ns.length ≤ 12) ∧ ∀ j, j < ns.length → formP (ns.getD j default) j ins.length := by
  by_cases hI : insOk ins ∧ 1 ≤ ns.length ∧ ns.length ≤ 12
  · refine ⟨hI.2, fun j hj => ?_⟩
    by_cases hf : formP (ns.getD j default) j ins.length
    · exact hf
    · rw [shM_n (shTo_none (shTo_form hf) _ (by omega))] at h; cases h
  · rw [shM_f hI] at h; cases h
attribute [local irreducible] aPlan aGet aIf aLoop aCall RetB NextB CallB CallG aCut aSet aAppend
end Go.Proofs.YtjmdhfjemaoebaaGreat
namespace Go.Proofs.YtjmdhfjemaoebaaGreat
set_option maxRecDepth 20000
open Go.RowKit Go.Am
set_option linter.unusedSimpArgs false
theorem told_ok {a b : List Int} (h : (told a b).2.2 = true) : tensorOk (told a b).1 (told a b).2.1 = true := by
  unfold told at h ⊢
  split at h
  · rename_i ht; rw [if_pos ht]; exact ht
  · cases h
theorem num_any {xs zs : List Int} (h : tensorOk xs zs = true) (j : Nat) : -1000000000 ≤ zs.getD j 0 ∧ zs.getD j 0 ≤ 1000000000 := by
  by_cases hj : j < zs.length
  · exact ((tensorOk_iff _ _).1 h).2.2 j hj
  · have : zs.getD j 0 = 0 := by simp only [List.getD, List.getElem?_eq_none (show zs.length ≤ j by omega)]; rfl
    rw [this]; omega
theorem map_ok {sh : List Int} {f : Nat → Int} (hs : shapeOk sh = true) (hf : ∀ i, -1000000000 ≤ f i ∧ f i ≤ 1000000000) : tensorOk sh ((List.range (cntTo sh sh.length).toNat).map f) = true :=
  tensorOk_t hs (by have := cnt64 hs (Nat.le_refl _); simp; omega) fun j hj => by
    rw [range_getD (by simpa using hj)]; exact hf j
theorem neg_ok {xs zs : List Int} (h : (negM xs zs).2.2 = true) : tensorOk (negM xs zs).1 (negM xs zs).2.1 = true := by
  unfold negM at h ⊢
  split at h
  · rename_i ht
    rw [if_pos ht]
    obtain ⟨t1, t2, t3⟩ := (tensorOk_iff _ _).1 ht
    refine tensorOk_t t1 (by rw [List.length_map]; exact t2) fun j hj => ?_
    rw [List.length_map] at hj
    rw [getD_map hj]
    have := t3 j hj
    omega
  · cases h
theorem fold_ok {xs zs ys : List Int} (h : (foldM xs zs ys).2.2 = true) : tensorOk (foldM xs zs ys).1 (foldM xs zs ys).2.1 = true := by
  unfold foldM at h ⊢
  split at h
  · rename_i ht
    rw [if_pos ht]
    obtain ⟨t1, t2, t3⟩ := (tensorOk_iff _ _).1 ht.1
    have hc := ht.2
    have hs : shapeOk ys = true := by
      by_cases hs : shapeOk ys = true
      · exact hs
      · have : countOf ys = -1 := if_neg hs
        rw [this] at hc; omega
    rw [count_of hs] at hc
    exact tensorOk_t hs hc.symm t3
  · cases h
theorem turn_ok {xs zs ys : List Int} (h : (turnM xs zs ys).2.2 = true) : tensorOk (turnM xs zs ys).1 (turnM xs zs ys).2.1 = true := by
  unfold turnM at h ⊢
  split at h
  · rename_i ht
    rw [if_pos ht]
    exact map_ok (turn_facts ((tensorOk_iff _ _).1 ht.1).1 ht.2).sh fun i => num_any ht.1 _
  · cases h
theorem cut_ok {xs zs : List Int} {i f m : Int} (h : (cutM xs zs i f m).2.2 = true) : tensorOk (cutM xs zs i f m).1 (cutM xs zs i f m).2.1 = true := by
  by_cases hp : cutP xs zs i f m
  · obtain ⟨a, rfl⟩ : ∃ a : Nat, i = a := ⟨i.toNat, by have := hp.2.1; omega⟩
    rw [cutM_t hp]
    exact map_ok (cut_facts' hp).2.2.sh fun i => num_any hp.1 _
  · rw [cutM_f hp] at h; cases h
theorem bs_ok {xs zs ps qs : List Int} {i : Int} (h : (bsM xs zs ps qs i).2.2 = true) : tensorOk (bsM xs zs ps qs i).1 (bsM xs zs ps qs i).2.1 = true := by
  by_cases hp : bsP xs zs ps qs i
  · obtain ⟨a, rfl⟩ : ∃ a : Nat, i = a := ⟨i.toNat, by have := hp.2.2.1; omega⟩
    rw [bsM_t hp]
    obtain ⟨h1, h2, h3, h4, h5⟩ := hp
    have s1 := ((tensorOk_iff _ _).1 h1).1
    have s2 := ((tensorOk_iff _ _).1 h2).1
    rw [Int.toNat_natCast] at h4 h5
    have hlp : ps.length = xs.length := by rw [h4]; simp
    have hz := size_in s2 (j := a) (by omega)
    refine map_ok ((bs_facts s1 (a := a) (by omega) hz).good h5).1 fun i => ?_
    unfold bsPick; split
    · exact num_any h1 _
    · exact num_any h2 _
  · rw [bsM_f hp] at h; cases h
theorem sum_ok {xs zs : List Int} {i : Int} (h : (sumM xs zs i).2.2 = true) : tensorOk (sumM xs zs i).1 (sumM xs zs i).2.1 = true := by
  unfold sumM at h ⊢
  split at h
  · rename_i ht; rw [if_pos ht]; exact told_ok h
  · cases h
theorem pr_ok {xs zs ps qs : List Int} (h : (prM xs zs ps qs).2.2 = true) : tensorOk (prM xs zs ps qs).1 (prM xs zs ps qs).2.1 = true := by
  unfold prM at h ⊢
  split at h
  · rename_i ht; rw [if_pos ht]; exact told_ok h
  · cases h
theorem two_ok {op : Int} {xs zs ps qs : List Int} (h : (twoM op xs zs ps qs).2.2 = true) : tensorOk (twoM op xs zs ps qs).1 (twoM op xs zs ps qs).2.1 = true := by
  unfold twoM at h ⊢
  split at h
  · rename_i ht; rw [if_pos ht]; exact told_ok h
  · cases h
theorem com_ok {x : Nd} {xs zs ps qs : List Int} (h : (comM x xs zs ps qs).2.2 = true) : tensorOk (comM x xs zs ps qs).1 (comM x xs zs ps qs).2.1 = true := by
  unfold comM at h ⊢
  split at h
  · rename_i o; rw [if_pos o]; exact neg_ok h
  · rename_i o; rw [if_neg o]
    split at h
    · rename_i o; rw [if_pos o]; exact sum_ok h
    · rename_i o; rw [if_neg o]
      split at h
      · rename_i o; rw [if_pos o]; exact turn_ok h
      · rename_i o; rw [if_neg o]
        split at h
        · rename_i o; rw [if_pos o]; exact fold_ok h
        · rename_i o; rw [if_neg o]
          split at h
          · rename_i o; rw [if_pos o]; exact cut_ok h
          · rename_i o; rw [if_neg o]
            split at h
            · rename_i o; rw [if_pos o]; exact bs_ok h
            · rename_i o; rw [if_neg o]
              split at h
              · rename_i o; rw [if_pos o]; exact pr_ok h
              · rename_i o; rw [if_neg o]; exact two_ok h
theorem vlM_ok {x : Nd} {ts vs : List T2} (hp : vPre x ts vs) (h : (vlM x ts vs).2.2 = true) : tensorOk (vlM x ts vs).1 (vlM x ts vs).2.1 = true := by
  obtain ⟨⟨f1, f2, f3, f4, f5, f6, f7⟩, hts, hvs, -, -⟩ := hp
  by_cases o0 : x.op = 0
  · have e : vlM x ts vs = ((ts.getD x.a.toNat ([], [])).1, (ts.getD x.a.toNat ([], [])).2, true) := if_pos o0
    have := f4 o0
    rw [e]; exact hts _ (by omega)
  · by_cases o1 : x.op = 1
    · have e : vlM x ts vs = ([], [x.a], true) := by unfold vlM; rw [if_neg o0, if_pos o1]
      have := f5 o1
      rw [e]
      refine tensorOk_t rfl rfl fun j hj => ?_
      have : j = 0 := by simpa using hj
      subst this
      show -1000000000 ≤ x.a ∧ x.a ≤ 1000000000
      omega
    · have e : vlM x ts vs = comM x (vs.getD x.a.toNat ([], [])).1 (vs.getD x.a.toNat ([], [])).2 (vs.getD x.b.toNat ([], [])).1 (vs.getD x.b.toNat ([], [])).2 := by unfold vlM; rw [if_neg o0, if_neg o1]
      rw [e] at h ⊢
      exact com_ok h
def vaTo (ns : List Nd) (ts : List T2) : Nat → Option (List T2)
  | 0 => some []
  | k + 1 => (vaTo ns ts k).bind fun vs => if (vlM (ns.getD k default) ts vs).2.2 = true then some (vs ++ [((vlM (ns.getD k default) ts vs).1, (vlM (ns.getD k default) ts vs).2.1)]) else none
theorem vaTo_t {ns : List Nd} {ts vs : List T2} {k : Nat} (h : vaTo ns ts k = some vs) (hp : (vlM (ns.getD k default) ts vs).2.2 = true) : vaTo ns ts (k + 1) = some (vs ++ [((vlM (ns.getD k default) ts vs).1, (vlM (ns.getD k default) ts vs).2.1)]) := by
  rw [vaTo, h]; exact if_pos hp
theorem vaTo_f {ns : List Nd} {ts vs : List T2} {k : Nat} (h : vaTo ns ts k = some vs) (hp : (vlM (ns.getD k default) ts vs).2.2 = false) : vaTo ns ts (k + 1) = none := by
  rw [vaTo, h]; exact if_neg (by rw [hp]; decide)
theorem vaTo_none {ns : List Nd} {ts : List T2} {k : Nat} (h : vaTo ns ts k = none) : ∀ n, k ≤ n → vaTo ns ts n = none
  | 0, hk => by
    have : k = 0 := by omega
    rw [← this]; exact h
  | n + 1, hk => by
    by_cases e : k = n + 1
    · rw [← e]; exact h
    · rw [vaTo, vaTo_none h n (by omega)]; rfl
theorem vaTo_len {ns : List Nd} {ts : List T2} : ∀ {k : Nat} {vs : List T2}, vaTo ns ts k = some vs → vs.length = k
  | 0, vs, h => by cases h; rfl
  | k + 1, vs, h => by
    cases e : vaTo ns ts k with
    | none => rw [vaTo, e] at h; cases h
    | some s =>
      cases hp : (vlM (ns.getD k default) ts s).2.2 with
      | true => rw [vaTo_t e hp] at h; cases h; rw [List.length_append, vaTo_len e]; rfl
      | false => rw [vaTo_f e hp] at h; cases h
theorem allT_snoc {vs : List T2} {y : T2} (h : allT vs) (hy : tensorOk y.1 y.2 = true) : allT (vs ++ [y]) := fun j hj => by
  rw [List.length_append] at hj
  by_cases hjl : j < vs.length
  · have : (vs ++ [y]).getD j ([], []) = vs.getD j ([], []) := by simp [List.getD, List.getElem?_append_left hjl]
    rw [this]; exact h j hjl
  · have e : j = vs.length := by simp at hj; omega
    subst e
    have : (vs ++ [y]).getD vs.length ([], []) = y := by simp [List.getD]
    rw [this]; exact hy
theorem inP_allT {xss : List (List Int)} {ns : List Nd} {ts : List T2} (h : inP xss ns ts) : allT ts := fun j hj => (h.2.2 j hj).1
theorem vPre_of {xss : List (List Int)} {ns : List Nd} {ts vs : List T2} {k : Nat} (h : inP xss ns ts) (hE : eP ns) (hk : k < ns.length) (hl : vs.length = k) (hv : allT vs) : vPre (ns.getD k default) ts vs := by
  have hf := (shM_form h.1).2 k hk
  rw [← hl, ← h.2.1] at hf
  obtain ⟨e1, e2⟩ := hE k hk
  rw [hl] at hf
  exact ⟨by rw [hl]; exact hf, inP_allT h, hv, e1, e2⟩
theorem vaTo_ok {xss : List (List Int)} {ns : List Nd} {ts : List T2} (h : inP xss ns ts) (hE : eP ns) : ∀ {k : Nat} {vs : List T2}, k ≤ ns.length → vaTo ns ts k = some vs → allT vs
  | 0, vs, _, e => by cases e; intro j hj; simp at hj
  | k + 1, vs, hk, e => by
    cases e0 : vaTo ns ts k with
    | none => rw [vaTo, e0] at e; cases e
    | some s =>
      have ih := vaTo_ok h hE (by omega) e0
      have hl := vaTo_len e0
      cases hp : (vlM (ns.getD k default) ts s).2.2 with
      | false => rw [vaTo_f e0 hp] at e; cases e
      | true =>
        rw [vaTo_t e0 hp] at e; cases e
        exact allT_snoc ih (vlM_ok (vPre_of h hE (by omega) hl ih) hp)
def vaM (xss : List (List Int)) (ns : List Nd) (ts : List T2) : List T2 × Bool := if inP xss ns ts then (match vaTo ns ts ns.length with | some vs => (vs, true) | none => ([], false)) else ([], false)
theorem vaM_t {xss : List (List Int)} {ns : List Nd} {ts vs : List T2} (h : inP xss ns ts) (e : vaTo ns ts ns.length = some vs) : vaM xss ns ts = (vs, true) := by unfold vaM; rw [if_pos h, e]
theorem vaM_n {xss : List (List Int)} {ns : List Nd} {ts : List T2} (e : vaTo ns ts ns.length = none) : vaM xss ns ts = ([], false) := by unfold vaM; rw [e]; split <;> rfl
theorem vaM_f {xss : List (List Int)} {ns : List Nd} {ts : List T2} (h : ¬ inP xss ns ts) : vaM xss ns ts = ([], false) := if_neg h
def sValuesOf : CSpec := fnRB (ι := Nat × List (List Int) × List Nd × Nat × List T2) 40 2 (fun | (c, xss, ns, d, ts) => [.agg [.sl c xss.length (xss.map (slI c)), .sl c ns.length (ns.flatMap (ndC c))], .sl d ts.length (ts.flatMap (tnC d))]) (fun | (_, _, ns, _, _) => eP ns) (fun | (_, xss, ns, _, ts) => (vaM xss ns ts).1.length) (fun | (_, xss, ns, _, ts) => (vaM xss ns ts).1.flatMap (tnO 3)) (fun | (_, xss, ns, _, ts) => (vaM xss ns ts).2)
end Go.Proofs.YtjmdhfjemaoebaaGreat
