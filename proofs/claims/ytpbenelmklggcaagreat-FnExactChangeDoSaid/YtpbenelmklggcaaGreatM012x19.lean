import Derived.Test.YtpbenelmklggcaaGreatM012x16
import Derived.Test.YtpbenelmklggcaaGreatM012x18
import Derived.Test.YtpbenelmklggcaaGreatM012x15
import Derived.Test.YtpbenelmklggcaaGreatM012x14
/- What is reckoned over all shapes and parts along an axis. -/
namespace Go.Proofs.YtpbenelmklggcaaGreat
set_option maxRecDepth 20000
open Go.RowKit Go.Am

def cutSel (xs : List Int) (a : Nat) (f m : Int) (k : Nat) : Bool := decide (f ≤ (places xs k).getD a 0 ∧ (places xs k).getD a 0 ≤ f + m - 1)
def cutSh (xs : List Int) (a : Nat) (m : Int) : List Int := xs.set a m
def cutAt (xs : List Int) (a : Nat) (f m : Int) (i : Nat) : Int := rdAt (cutSh xs a m) (strides xs) (f * (strides xs).getD a 0) i
def cutOne (xs : List Int) (a : Nat) (f m : Int) : Bool := shapeOk (cutSh xs a m) && ((List.range (cntTo (cutSh xs a m) xs.length).toNat).all fun i => decide (0 ≤ cutAt xs a f m i) && decide (cutAt xs a f m i < cntTo xs xs.length)) &&
  ((List.range (cntTo xs xs.length).toNat).filter (cutSel xs a f m) == (List.range (cntTo (cutSh xs a m) xs.length).toNat).map fun i => (cutAt xs a f m i).toNat)
def cutChk (xs : List Int) : Bool := (List.range xs.length).all fun a => sizes.all fun m => [0, 1, 2, 3].all fun f => decide (xs.getD a 0 < f + m) || cutOne xs a f m
theorem cutChk_2 : shapes2.all cutChk = true := by kernel_rfl
theorem cutChk_31 : (shapes3 1).all cutChk = true := by kernel_rfl
theorem cutChk_32 : (shapes3 2).all cutChk = true := by kernel_rfl
theorem cutChk_33 : (shapes3 3).all cutChk = true := by kernel_rfl
theorem cutChk_34 : (shapes3 4).all cutChk = true := by kernel_rfl
structure CutFacts (xs : List Int) (a : Nat) (f m : Int) : Prop where
  sh : shapeOk (cutSh xs a m) = true
  at_ : ∀ i : Nat, (i : Int) < cntTo (cutSh xs a m) xs.length → 0 ≤ cutAt xs a f m i ∧ cutAt xs a f m i < cntTo xs xs.length
  sel : (List.range (cntTo xs xs.length).toNat).filter (cutSel xs a f m) = (List.range (cntTo (cutSh xs a m) xs.length).toNat).map fun i => (cutAt xs a f m i).toNat
theorem cut_facts {xs : List Int} (hs : shapeOk xs = true) {a : Nat} (ha : a < xs.length) {f m : Int} (hf : 0 ≤ f) (hm : 1 ≤ m) (hfm : f + m ≤ xs.getD a 0) : CutFacts xs a f m := by
  have h := shape_all cutChk_2 cutChk_31 cutChk_32 cutChk_33 cutChk_34 hs
  have hz := size_in hs ha
  unfold cutChk at h
  simp only [List.all_eq_true] at h
  have hmm : m ∈ sizes := size_mem (by omega)
  have hff : f ∈ ([0, 1, 2, 3] : List Int) := by
    have : f = 0 ∨ f = 1 ∨ f = 2 ∨ f = 3 := by omega
    simpa using this
  have h := h a (List.mem_range.2 ha) m hmm f hff
  rw [Bool.or_eq_true, decide_eq_true_iff] at h
  rcases h with h | h
  · omega
  unfold cutOne at h
  simp only [Bool.and_eq_true, decide_eq_true_eq, beq_iff_eq, List.all_eq_true] at h
  obtain ⟨⟨h1, h2⟩, h3⟩ := h
  exact ⟨h1, fun i hi => h2 i (List.mem_range.2 (by omega)), h3⟩
end Go.Proofs.YtpbenelmklggcaaGreat

/- Chapter 2: CutOf. -/
namespace Go.Proofs.YtpbenelmklggcaaGreat
set_option maxRecDepth 20000
open Go.RowKit Go.Am
attribute [local irreducible] aPlan aGet aIf aLoop aCall RetB NextB CallB CallG aCut aSet aAppend

def cutP (xs zs : List Int) (i f m : Int) : Prop := tensorOk xs zs = true ∧ (0 ≤ i ∧ i < xs.length) ∧ 0 ≤ f ∧ 1 ≤ m ∧ f + m ≤ xs.getD i.toNat 0
instance (xs zs : List Int) (i f m : Int) : Decidable (cutP xs zs i f m) := by unfold cutP; infer_instance
def cutM (xs zs : List Int) (i f m : Int) : TM := if cutP xs zs i f m then (cutSh xs i.toNat m, rdL zs (cutSh xs i.toNat m) (strides xs) (f * (strides xs).getD i.toNat 0), true) else noT
theorem cutM_t {xs zs : List Int} {a : Nat} {f m : Int} (h : cutP xs zs a f m) : cutM xs zs a f m = (cutSh xs a m, rdL zs (cutSh xs a m) (strides xs) (f * (strides xs).getD a 0), true) := by
  unfold cutM; rw [if_pos h, Int.toNat_natCast]
theorem cutM_f {xs zs : List Int} {i f m : Int} (h : ¬ cutP xs zs i f m) : cutM xs zs i f m = noT := if_neg h
theorem cutSh_length (xs : List Int) (a : Nat) (m : Int) : (cutSh xs a m).length = xs.length := by simp [cutSh]
theorem cut_facts' {xs zs : List Int} {a : Nat} {f m : Int} (h : cutP xs zs a f m) : shapeOk xs = true ∧ a < xs.length ∧ CutFacts xs a f m := by
  obtain ⟨h1, h2, h3, h4, h5⟩ := h
  have hs := ((tensorOk_iff _ _).1 h1).1
  have ha : a < xs.length := by omega
  rw [Int.toNat_natCast] at h5
  exact ⟨hs, ha, cut_facts hs ha h3 h4 h5⟩
theorem cut_pre {xs zs : List Int} {a : Nat} {f m : Int} (h : cutP xs zs a f m) : RdPre zs (cutSh xs a m) (strides xs) (f * (strides xs).getD a 0) := by
  obtain ⟨hs, ha, hf⟩ := cut_facts' h
  have t2 := ((tensorOk_iff _ _).1 h.1).2.1
  have hz := size_in hs ha
  have h5 := h.2.2.2.2
  rw [Int.toNat_natCast] at h5
  have hst := strides_in hs ha
  have hm := mul_in (a := f) (b := (strides xs).getD a 0) ⟨h.2.2.1, by have := h.2.2.2.1; omega⟩ (by omega)
  refine ⟨hf.sh, by rw [strides_length, cutSh_length], fun j hj => ?_, by omega, fun i hi => ?_⟩
  · rw [cutSh_length] at hj
    have := strides_in hs hj
    omega
  · rw [cutSh_length] at hi
    have := hf.at_ i hi
    have e : rdAt (cutSh xs a m) (strides xs) (f * (strides xs).getD a 0) i = cutAt xs a f m i := rfl
    rw [e]; omega
def sCutOf : CSpec := fnTB (ι := Nat × List Int × Nat × List Int × Int × Int × Int) 3 (fun | (c, xs, d, zs, i, f, m) => [.agg [.sl c xs.length (xs.map (.int .i64)), .sl d zs.length (zs.map (.int .i64))], .int .i64 i, .int .i64 f, .int .i64 m]) (fun | (_, xs, _, _, _, f, m) => xs.length ≤ 1048576 ∧ (Lit.int .i64 f).wf = true ∧ (Lit.int .i64 m).wf = true) (fun | (_, xs, _, zs, i, f, m) => cutM xs zs i f m)
theorem wf_in {z : Int} (h : (Lit.int .i64 z).wf = true) : -9223372036854775808 ≤ z ∧ z ≤ 9223372036854775807 := by
  simp only [Lit.wf, Bool.and_eq_true, decide_eq_true_iff] at h
  have h1 : IntKind.i64.min = -9223372036854775808 := rfl
  have h2 : IntKind.i64.max = 9223372036854775807 := rfl
  omega
set_option maxHeartbeats 4000000 in
set_option maxRecDepth 10000 in
theorem iCutOf_sound : Sound Tryz.prog 102 sCutOf := by
  refine sound_of Tryz.func102 rfl (enters_of Tryz.func102 (by kernel_rfl) (by kernel_rfl)) ?_
  rintro ⟨c, xs, d, zs, i, f, m⟩ hpre
  have hpre : xs.length ≤ 1048576 ∧ (Lit.int .i64 f).wf = true ∧ (Lit.int .i64 m).wf = true := hpre
  obtain ⟨hp1, hp2, hp3⟩ := hpre
  have hp2 := wf_in hp2
  have hp3 := wf_in hp3
  rcases tensor_or xs zs with ⟨ht, hx, hz⟩ | ht
  · by_cases hi : 0 ≤ i ∧ i < xs.length
    · obtain ⟨a, rfl⟩ : ∃ a : Nat, i = a := ⟨i.toNat, by omega⟩
      obtain ⟨hs, t2, t3⟩ := (tensorOk_iff _ _).1 ht
      have ha : a < xs.length := by omega
      have hsz := size_in hs ha
      by_cases hm : 1 ≤ m
      · have hw : IntKind.i64.wrap (xs.getD a 0 - m) = xs.getD a 0 - m := IntWalk.i64_in _ (by omega)
        by_cases hP : 0 ≤ f ∧ f + m ≤ xs.getD a 0
        · have hC : cutP xs zs a f m := ⟨ht, hi, hP.1, hm, by rw [Int.toNat_natCast]; exact hP.2⟩
          have hrd := cut_pre hC
          have hso : stridesOf xs = strides xs := if_pos hs
          have hsl : (stridesOf xs).length = xs.length := by rw [hso, strides_length]
          have hst := strides_in hs ha
          have hmi := mul_in (a := f) (b := (strides xs).getD a 0) (by omega) (by omega)
          have hw2 : IntKind.i64.wrap (f * (strides xs).getD a 0) = f * (strides xs).getD a 0 := IntWalk.i64_in _ (by omega)
          have hsh : xs.set a m = cutSh xs a m := rfl
          have hcl := cutSh_length xs a m
          have hM := cutM_t hC
          conv => whnf
          repeat' (first
            | (refine plan_in (id := 8) [0, 1, 2, 3, 4, 5, 6, 7, 8, 9, 10, 11, 12] (by kernel_rfl) (by kernel_rfl) ?_; conv => whnf)
            | (refine aIf_t ?_; conv => whnf)
            | (refine aIf_f ?_; conv => whnf)
            | (refine get_nat0 (by omega) ?_; conv => whnf)
            | (refine get_nat (by omega) ?_; conv => whnf)
            | (refine aGet_in rfl ?_; conv => whnf)
            | (refine And.intro (by omega) ?_; conv => whnf)
            | (refine load_same ?_; conv => whnf)
            | (refine And.intro rfl (And.intro (List.cons_ne_nil _ _) ?_); conv => whnf)
            | (refine And.intro (Nat.le_of_ble_eq_true rfl) ?_; conv => whnf)
            | (refine callG_t ?_; conv => whnf)
            | (refine copyNums_call (by omega) ?_; conv => whnf)
            | (refine axisOk_call ?_; conv => whnf)
            | (refine iTensorOk_call ?_; conv => whnf)
            | (refine append_same ?_; conv => whnf)
            | (refine takeN_in ?_; conv => whnf)
            | (refine And.intro (pureL_ints _ _) ?_; conv => whnf)
            | (refine iStridesOf_call (by omega) ?_; conv => whnf)
            | (refine And.intro rfl (And.intro rfl (And.intro (by first | omega | (rw [List.length_map]; omega)) ?_)); conv => whnf)
            | (refine set_nat ?_ (by omega); conv => whnf)
            | (refine set_force ?_; conv => whnf)
            | (refine And.intro (by kernel_rfl) ?_; conv => whnf)
            | (refine aIf_tt (by assumption) ?_; conv => whnf)
            | refine aIf_eqf ?_
            | refine aIf_not ?_
            | (refine aIf_dec (fun _ => ?_) (fun _ => ?_) <;> conv => whnf))
          all_goals (first | (exfalso; omega) | skip)
          rw [hsh]
          refine cut_all (by simp [hcl]) (scalL_ints _ _) ?_
          conv => whnf
          repeat' (first
            | (refine plan_in (id := 8) [0, 1, 2, 3, 4, 5, 6, 7, 8, 9, 10, 11, 12] (by kernel_rfl) (by kernel_rfl) ?_; conv => whnf)
            | (refine append_same ?_; conv => whnf)
            | (refine cut_ints ?_; conv => whnf))
          rw [hso, hw2]
          repeat' (first
            | (refine plan_in (id := 8) [0, 1, 2, 3, 4, 5, 6, 7, 8, 9, 10, 11, 12] (by kernel_rfl) (by kernel_rfl) ?_; conv => whnf)
            | (refine And.intro (Nat.le_of_ble_eq_true rfl) ?_; conv => whnf)
            | (refine readBy_call (by assumption) (by first | rfl | omega) (by first | rfl | omega) (by first | rfl | omega) ?_; conv => whnf)
            | (refine append_same ?_; conv => whnf)
            | (refine takeN_in ?_; conv => whnf)
            | (refine set_force ?_; conv => whnf)
            | (refine And.intro (by kernel_rfl) ?_; conv => whnf))
          refine retTB (hM := hM) ?_ ?_ ?_ ?_ ?_
          all_goals (first | exact rfl | decide | (simp; done))
        · have hC : ¬ cutP xs zs a f m := fun h => hP ⟨h.2.2.1, by have := h.2.2.2.2; rwa [Int.toNat_natCast] at this⟩
          conv => whnf
          repeat' (first
            | (refine plan_in (id := 8) [0, 1, 2, 3, 4, 5, 6, 7, 8, 9, 10, 11, 12] (by kernel_rfl) (by kernel_rfl) ?_; conv => whnf)
            | (refine aIf_t ?_; conv => whnf)
            | (refine aIf_f ?_; conv => whnf)
            | (refine get_nat0 (by omega) ?_; conv => whnf)
            | (refine get_nat (by omega) ?_; conv => whnf)
            | (refine aGet_in rfl ?_; conv => whnf)
            | (refine And.intro (by omega) ?_; conv => whnf)
            | (refine load_same ?_; conv => whnf)
            | (refine And.intro rfl (And.intro (List.cons_ne_nil _ _) ?_); conv => whnf)
            | (refine And.intro (Nat.le_of_ble_eq_true rfl) ?_; conv => whnf)
            | (refine callG_t ?_; conv => whnf)
            | (refine copyNums_call (by omega) ?_; conv => whnf)
            | (refine axisOk_call ?_; conv => whnf)
            | (refine iTensorOk_call ?_; conv => whnf)
            | (refine append_same ?_; conv => whnf)
            | (refine takeN_in ?_; conv => whnf)
            | (refine And.intro (pureL_ints _ _) ?_; conv => whnf)
            | (refine cut_ints ?_; conv => whnf)
            | (refine cut_all (by simp only [List.length_map]; omega) (scalL_ints _ _) ?_; conv => whnf)
            | (refine iStridesOf_call (by omega) ?_; conv => whnf)
            | (refine set_nat ?_ (by omega); conv => whnf)
            | (refine set_force ?_; conv => whnf)
            | (refine And.intro (by kernel_rfl) ?_; conv => whnf)
            | (refine aIf_tt (by assumption) ?_; conv => whnf)
            | refine aIf_eqf ?_
            | refine aIf_not ?_
            | (refine aIf_dec (fun _ => ?_) (fun _ => ?_) <;> conv => whnf))
          all_goals (first | (exfalso; omega) | skip)
          · refine retTB (hM := cutM_f hC) ?_ ?_ ?_ ?_ ?_
            all_goals (first | exact rfl | decide | (simp; done))
          · refine retTB (hM := cutM_f hC) ?_ ?_ ?_ ?_ ?_
            all_goals (first | exact rfl | decide | (simp; done))
      · have hC : ¬ cutP xs zs a f m := fun h => hm h.2.2.2.1
        conv => whnf
        repeat' (first
          | (refine plan_in (id := 8) [0, 1, 2, 3, 4, 5, 6, 7, 8, 9, 10, 11, 12] (by kernel_rfl) (by kernel_rfl) ?_; conv => whnf)
          | (refine aIf_t ?_; conv => whnf)
          | (refine aIf_f ?_; conv => whnf)
          | (refine get_nat0 (by omega) ?_; conv => whnf)
          | (refine get_nat (by omega) ?_; conv => whnf)
          | (refine aGet_in rfl ?_; conv => whnf)
          | (refine And.intro (by omega) ?_; conv => whnf)
          | (refine load_same ?_; conv => whnf)
          | (refine And.intro rfl (And.intro (List.cons_ne_nil _ _) ?_); conv => whnf)
          | (refine And.intro (Nat.le_of_ble_eq_true rfl) ?_; conv => whnf)
          | (refine callG_t ?_; conv => whnf)
          | (refine copyNums_call (by omega) ?_; conv => whnf)
          | (refine axisOk_call ?_; conv => whnf)
          | (refine iTensorOk_call ?_; conv => whnf)
          | (refine append_same ?_; conv => whnf)
          | (refine takeN_in ?_; conv => whnf)
          | (refine And.intro (pureL_ints _ _) ?_; conv => whnf)
          | (refine cut_ints ?_; conv => whnf)
          | (refine cut_all (by simp only [List.length_map]; omega) (scalL_ints _ _) ?_; conv => whnf)
          | (refine iStridesOf_call (by omega) ?_; conv => whnf)
          | (refine set_nat ?_ (by omega); conv => whnf)
          | (refine set_force ?_; conv => whnf)
          | (refine And.intro (by kernel_rfl) ?_; conv => whnf)
          | (refine aIf_tt (by assumption) ?_; conv => whnf)
          | refine aIf_eqf ?_
          | refine aIf_not ?_
          | (refine aIf_dec (fun _ => ?_) (fun _ => ?_) <;> conv => whnf))
        all_goals (first | (exfalso; omega) | skip)
        refine retTB (hM := cutM_f hC) ?_ ?_ ?_ ?_ ?_
        all_goals (first | exact rfl | decide | (simp; done))
    · have hC : ¬ cutP xs zs i f m := fun h => hi h.2.1
      conv => whnf
      repeat' (first
        | (refine plan_in (id := 8) [0, 1, 2, 3, 4, 5, 6, 7, 8, 9, 10, 11, 12] (by kernel_rfl) (by kernel_rfl) ?_; conv => whnf)
        | (refine aIf_t ?_; conv => whnf)
        | (refine aIf_f ?_; conv => whnf)
        | (refine get_nat0 (by omega) ?_; conv => whnf)
        | (refine get_nat (by omega) ?_; conv => whnf)
        | (refine aGet_in rfl ?_; conv => whnf)
        | (refine And.intro (by omega) ?_; conv => whnf)
        | (refine load_same ?_; conv => whnf)
        | (refine And.intro rfl (And.intro (List.cons_ne_nil _ _) ?_); conv => whnf)
        | (refine And.intro (Nat.le_of_ble_eq_true rfl) ?_; conv => whnf)
        | (refine callG_t ?_; conv => whnf)
        | (refine copyNums_call (by omega) ?_; conv => whnf)
        | (refine axisOk_call ?_; conv => whnf)
        | (refine iTensorOk_call ?_; conv => whnf)
        | (refine append_same ?_; conv => whnf)
        | (refine takeN_in ?_; conv => whnf)
        | (refine And.intro (pureL_ints _ _) ?_; conv => whnf)
        | (refine cut_ints ?_; conv => whnf)
        | (refine cut_all (by simp only [List.length_map]; omega) (scalL_ints _ _) ?_; conv => whnf)
        | (refine iStridesOf_call (by omega) ?_; conv => whnf)
        | (refine set_nat ?_ (by omega); conv => whnf)
        | (refine set_force ?_; conv => whnf)
        | (refine And.intro (by kernel_rfl) ?_; conv => whnf)
        | (refine aIf_tt (by assumption) ?_; conv => whnf)
        | refine aIf_eqf ?_
        | refine aIf_not ?_
        | (refine aIf_dec (fun _ => ?_) (fun _ => ?_) <;> conv => whnf))
      all_goals (first | (exfalso; omega) | skip)
      refine retTB (hM := cutM_f hC) ?_ ?_ ?_ ?_ ?_
      all_goals (first | exact rfl | decide | (simp; done))
  · have hC : ¬ cutP xs zs i f m := fun h => Bool.false_ne_true (ht.symm.trans h.1)
    conv => whnf
    repeat' (first
      | (refine plan_in (id := 8) [0, 1, 2, 3, 4, 5, 6, 7, 8, 9, 10, 11, 12] (by kernel_rfl) (by kernel_rfl) ?_; conv => whnf)
      | (refine aIf_t ?_; conv => whnf)
      | (refine aIf_f ?_; conv => whnf)
      | (refine load_same ?_; conv => whnf)
      | (refine And.intro rfl (And.intro (List.cons_ne_nil _ _) ?_); conv => whnf)
      | (refine And.intro (Nat.le_of_ble_eq_true rfl) ?_; conv => whnf)
      | (refine callG_t ?_; conv => whnf)
      | (refine iTensorOk_call ?_; conv => whnf)
      | (refine append_same ?_; conv => whnf)
      | (refine takeN_in ?_; conv => whnf)
      | (refine And.intro (pureL_ints _ _) ?_; conv => whnf)
      | (refine set_force ?_; conv => whnf)
      | (refine And.intro (by kernel_rfl) ?_; conv => whnf)
      | (refine aIf_ff (by assumption) ?_; conv => whnf)
      | refine aIf_eqf ?_
      | refine aIf_not ?_)
    refine retTB (hM := cutM_f hC) ?_ ?_ ?_ ?_ ?_
    all_goals (first | exact rfl | decide | (simp; done))
end Go.Proofs.YtpbenelmklggcaaGreat

/- Chapter 2: CutOf of the model. -/
namespace Go.Proofs.YtpbenelmklggcaaGreat
set_option maxRecDepth 20000
open Go.RowKit Go.Am
attribute [local irreducible] aPlan aGet aIf aLoop aCall RetB NextB CallB CallG aCut aSet aAppend

def cutTo (xs zs : List Int) (a : Nat) (f m : Int) (k : Nat) : List Int := ((List.range k).filter (cutSel xs a f m)).map fun j => zs.getD j 0
theorem cutTo_t {xs zs : List Int} {a : Nat} {f m : Int} {k : Nat} (h : cutSel xs a f m k = true) : cutTo xs zs a f m (k + 1) = cutTo xs zs a f m k ++ [zs.getD k 0] := by
  unfold cutTo; rw [List.range_succ, List.filter_append, List.map_append]; simp [h]
theorem cutTo_f {xs zs : List Int} {a : Nat} {f m : Int} {k : Nat} (h : cutSel xs a f m k = false) : cutTo xs zs a f m (k + 1) = cutTo xs zs a f m k := by
  unfold cutTo; rw [List.range_succ, List.filter_append, List.map_append]; simp [h]
theorem cutTo_le (xs zs : List Int) (a : Nat) (f m : Int) (k : Nat) : (cutTo xs zs a f m k).length ≤ k := by
  unfold cutTo; rw [List.length_map]
  exact Nat.le_trans (List.length_filter_le _ _) (by simp)
def sL2Cut : CSpec := fnT (ι := Nat × List Int × Nat × List Int × Nat × Int × Int) 3 (fun | (c, xs, d, zs, a, f, m) => [.agg [.sl c xs.length (xs.map (.int .i64)), .sl d zs.length (zs.map (.int .i64))], .int .i64 a, .int .i64 f, .int .i64 m]) (fun | (_, xs, _, zs, a, f, m) => cutP xs zs a f m) (fun | (_, xs, _, _, a, _, m) => cutSh xs a m) (fun | (_, xs, _, zs, a, f, m) => rdL zs (cutSh xs a m) (strides xs) (f * (strides xs).getD a 0))
theorem cutM_len (xs zs : List Int) (i f m : Int) : (cutM xs zs i f m).1.length ≤ 3 ∧ (cutM xs zs i f m).2.1.length ≤ 64 := by
  by_cases h : cutP xs zs i f m
  · obtain ⟨a, rfl⟩ : ∃ a : Nat, i = a := ⟨i.toNat, by have := h.2.1; omega⟩
    obtain ⟨hs, ha, hf⟩ := cut_facts' h
    have hc := cnt64 hf.sh (Nat.le_refl _)
    have h3 := ((shapeOk_iff _).1 hf.sh).1
    rw [cutM_t h]
    exact ⟨h3, by show (rdL zs (cutSh xs a m) (strides xs) (f * (strides xs).getD a 0)).length ≤ 64; rw [rdL_length]; omega⟩
  · rw [cutM_f h]; exact ⟨Nat.zero_le _, Nat.zero_le _⟩
theorem iCutOf_call {c d : Nat} {xs zs : List Int} {i f m : Int} {env : List AV} {rows : List Row} {ctr low : Nat} {k : AV → St → Prop} (hpre : xs.length ≤ 1048576 ∧ (Lit.int .i64 f).wf = true ∧ (Lit.int .i64 m).wf = true)
    (hk : k (.tup [.agg [.ref rows.length ctr 0 (cutM xs zs i f m).1.length, .ref (rows.length + 1) ctr 0 (cutM xs zs i f m).2.1.length], .bool (cutM xs zs i f m).2.2]) ⟨env, rows ++ [⟨ctr, 3, 1, (cutM xs zs i f m).1.map (.int .i64)⟩, ⟨ctr, 3, 1, (cutM xs zs i f m).2.1.map (.int .i64)⟩], ctr + 1, low⟩) :
    CallB Tryz.prog 102 ⟨env, rows, ctr, low⟩ [.agg [.sl c xs.length (xs.map (.int .i64)), .sl d zs.length (zs.map (.int .i64))], .int .i64 i, .int .i64 f, .int .i64 m] k := callTB_in iCutOf_sound (c, xs, d, zs, i, f, m) hpre hk
end Go.Proofs.YtpbenelmklggcaaGreat

/- SpreadIndex of the program. -/
namespace Go.Proofs.YtpbenelmklggcaaGreat
set_option maxRecDepth 20000
open Go.RowKit Go.Am
attribute [local irreducible] aPlan aGet aIf aLoop aCall RetB NextB CallB CallG aCut aSet aAppend

set_option maxHeartbeats 4000000 in
set_option maxRecDepth 10000 in
theorem iSpreadIndex_sound : Sound Tryz.prog 123 sSpread := by
  refine sound_of Tryz.func123 rfl (enters_of Tryz.func123 (by kernel_rfl) (by kernel_rfl)) ?_
  rintro ⟨c, xs, d, ys, i⟩ hpre
  have hpre : ys.length ≤ 1048576 := hpre
  by_cases hs : jOk xs ys = true ∧ jL xs ys = ys
  · obtain ⟨hj, he⟩ := hs
    obtain ⟨hy, hxy⟩ := sp_facts hj he
    have hly := ((shapeOk_iff ys).1 hy).1
    by_cases hi' : 0 ≤ i ∧ i < cntTo ys ys.length
    · have hpa := pa_t hy hi'
      have hok : paOk ys i = true := hpa.2.symm
      have hpl := places_length ys i
      conv => whnf
      repeat' (first
        | (refine aIf_t ?_; conv => whnf)
        | (refine aIf_f ?_; conv => whnf)
        | (refine fun (_ : _ ≤ maxLen) => ?_; conv => whnf)
        | (refine aGet_in rfl ?_; conv => whnf)
        | (refine callG_t ?_; conv => whnf)
        | (refine append_same ?_; conv => whnf)
        | (refine And.intro (pureL_ints _ _) ?_; conv => whnf)
        | (refine cut_ints ?_; conv => whnf)
        | (refine iPlaceAt_call (by omega) ?_; conv => whnf)
        | (refine iJoin_call ?_; conv => whnf)
        | (refine sameNums_call ?_; conv => whnf)
        | (refine aIf_tt (by assumption) ?_; conv => whnf)
        | refine aIf_eqf ?_
        | refine aIf_not ?_
        | (refine aIf_dec (fun _ => ?_) (fun _ => ?_) <;> conv => whnf))
      all_goals (first
        | contradiction
        | (rename_i h; rw [hj] at h; exact Bool.noConfusion h)
        | (rename_i h; rw [hok] at h; exact Bool.noConfusion h)
        | skip)
      rw [hpa.1]
      refine loop_in (ι := Nat) (fun k => ⟨[.sl c xs.length (xs.map (.int .i64)), .sl d ys.length (ys.map (.int .i64)), .int .i64 i, .un, .un, .un, .un, .un, .un, .ref 1 3 0 (places ys i).length, .un, .int .i64 (IntKind.i64.wrap ((ys.length : Int) - (xs.length : Int))), .int .i64 (idxTo xs (px xs ys i) k), .un, .un, .un, .un, .un, .un, .un, .un, .un, .un, .un, .un, .un, .un, .un, .un, .un, .un, .un, .un, .un, .un, .un, .un, .un, .un, .un, .un, .un, .sl c xs.length (xs.map (.int .i64)), .int .i64 xs.length, .int .i64 k, .un, .un, .un, .un, .un, .un, .un, .un, .un, .un, .un, .un, .un, .un, .un, .un, .un, .un, .un], [⟨1, 3, 1, (jL xs ys).map (.int .i64)⟩, ⟨3, 3, 1, (places ys i).map (.int .i64)⟩], 4, 0⟩)
        (fun k => k ≤ xs.length) (fun k => xs.length - k) 0 (Nat.zero_le _) ?_ ?_
      · repeat' (first
          | exact trivial
          | exact rfl
          | exact pureL_ints _ _
          | exact le_ints rfl
          | refine And.intro ?_ ?_
          | exact Nat.le_of_ble_eq_true rfl)
      · intro k hk
        have hk : k ≤ xs.length := hk
        have hw1 : IntKind.i64.wrap ((ys.length : Int) - (xs.length : Int)) = (ys.length : Int) - (xs.length : Int) := IntWalk.i64_in _ (by omega)
        have hw2 : IntKind.i64.wrap (IntKind.i64.wrap ((ys.length : Int) - (xs.length : Int)) + (k : Int)) = (ys.length : Int) - (xs.length : Int) + (k : Int) := by rw [hw1]; exact IntWalk.i64_in _ (by omega)
        have hi : (IntKind.i64.wrap (IntKind.i64.wrap ((ys.length : Int) - (xs.length : Int)) + (k : Int))).toNat = ys.length - xs.length + k := by rw [hw2]; omega
        by_cases hkx : k < xs.length
        · have hp := px_getD (ys := ys) (i := i) hkx
          conv => whnf
          repeat' (first
            | (refine get_int0 (by omega) ?_; conv => whnf)
            | (refine get_nat (by omega) ?_; conv => whnf)
            | (refine And.intro (by omega) ?_; conv => whnf)
            | (refine append_same ?_; conv => whnf)
            | (refine aIf_dec (fun _ => ?_) (fun _ => ?_) <;> conv => whnf))
          all_goals (first | (exfalso; omega) | skip)
          · have hp : (px xs ys i).getD k 0 = (places ys i).getD (ys.length - xs.length + k) 0 := by rw [hp, if_pos (by omega)]
            have e2 : idxTo xs (px xs ys i) (k + 1) = IntKind.i64.wrap (IntKind.i64.wrap (idxTo xs (px xs ys i) k * xs.getD k 0) + (places ys i).getD (ys.length - xs.length + k) 0) := by rw [idxTo, hp]
            rw [hi]
            simp only [Nat.mul_one]
            rw [← e2]
            refine next_in (k + 1) (show xs.length - (k + 1) < xs.length - k by omega) (by omega) ?_
            repeat' (first
              | exact trivial
              | exact rfl
              | exact pureL_ints _ _
              | exact le_ints rfl
              | refine And.intro ?_ ?_
              | exact Nat.le_of_ble_eq_true rfl
              | exact int_eq (by rw [IntWalk.i64_in _ (by omega)] <;> omega))
          · have hp : (px xs ys i).getD k 0 = 0 := by rw [hp, if_neg (by omega)]
            have e2 : idxTo xs (px xs ys i) (k + 1) = IntKind.i64.wrap (idxTo xs (px xs ys i) k * xs.getD k 0) := by rw [idxTo, hp]; exact wrap_add0 _
            rw [← e2]
            refine next_in (k + 1) (show xs.length - (k + 1) < xs.length - k by omega) (by omega) ?_
            repeat' (first
              | exact trivial
              | exact rfl
              | exact pureL_ints _ _
              | exact le_ints rfl
              | refine And.intro ?_ ?_
              | exact Nat.le_of_ble_eq_true rfl
              | exact int_eq (by rw [IntWalk.i64_in _ (by omega)] <;> omega))
        · have e : k = xs.length := by omega
          subst e
          conv => whnf
          repeat' (first
            | (refine get_nat0 (by omega) ?_; conv => whnf)
            | (refine get_nat (by omega) ?_; conv => whnf)
            | (refine And.intro (by omega) ?_; conv => whnf)
            | (refine append_same ?_; conv => whnf)
            | (refine aIf_dec (fun _ => ?_) (fun _ => ?_) <;> conv => whnf))
          all_goals (first | (exfalso; omega) | exact retS rfl (int_eq (spread_t hj he hi')))
    · have hok : paOk ys i = false := (pa_f (fun h => hi' h.2)).2.symm
      conv => whnf
      repeat' (first
        | (refine aIf_t ?_; conv => whnf)
        | (refine aIf_f ?_; conv => whnf)
        | (refine aGet_in rfl ?_; conv => whnf)
        | (refine callG_t ?_; conv => whnf)
        | (refine append_same ?_; conv => whnf)
        | (refine And.intro (pureL_ints _ _) ?_; conv => whnf)
        | (refine cut_ints ?_; conv => whnf)
        | (refine iPlaceAt_call (by omega) ?_; conv => whnf)
        | (refine iJoin_call ?_; conv => whnf)
        | (refine sameNums_call ?_; conv => whnf)
        | (refine aIf_tt (by assumption) ?_; conv => whnf)
        | (refine aIf_ff (by assumption) ?_; conv => whnf)
        | refine aIf_eqf ?_
        | refine aIf_not ?_
        | (refine aIf_dec (fun _ => ?_) (fun _ => ?_) <;> conv => whnf))
      all_goals (first
        | contradiction
        | exact retS rfl (int_eq (spread_f (fun h => hi' h.2.2)))
        | (rename_i h; rw [hj] at h; exact Bool.noConfusion h)
        | (exfalso; have h : paOk ys i = true := (by assumption); rw [hok] at h; exact Bool.noConfusion h))
  · conv => whnf
    repeat' (first
      | (refine aIf_t ?_; conv => whnf)
      | (refine aIf_f ?_; conv => whnf)
      | (refine fun (_ : _ ≤ maxLen) => ?_; conv => whnf)
      | (refine aGet_in rfl ?_; conv => whnf)
      | (refine callG_t ?_; conv => whnf)
      | (refine append_same ?_; conv => whnf)
      | (refine And.intro (pureL_ints _ _) ?_; conv => whnf)
      | (refine cut_ints ?_; conv => whnf)
      | (refine iPlaceAt_call (by omega) ?_; conv => whnf)
      | (refine iJoin_call ?_; conv => whnf)
      | (refine sameNums_call ?_; conv => whnf)
      | refine aIf_eqf ?_
      | refine aIf_not ?_
      | (refine aIf_dec (fun _ => ?_) (fun _ => ?_) <;> conv => whnf)
      | (refine aIf_in (fun _ => ?_) (fun _ => ?_) <;> conv => whnf))
    all_goals (first
      | exact retS rfl (int_eq (spread_f (fun h => hs ⟨h.1, h.2.1⟩)))
      | exact absurd ⟨by assumption, by assumption⟩ hs
     )
theorem iSpreadIndex_call {c d : Nat} {xs ys : List Int} {i : Int} {env : List AV} {rows : List Row} {ctr low : Nat} {k : AV → St → Prop} (hpre : ys.length ≤ 1048576) (h : k (.int .i64 (spread xs ys i)) ⟨env, rows, ctr + 1, low⟩) :
    CallB Tryz.prog 123 ⟨env, rows, ctr, low⟩ [.sl c xs.length (xs.map (.int .i64)), .sl d ys.length (ys.map (.int .i64)), .int .i64 i] k := callS_in iSpreadIndex_sound (c, xs, d, ys, i) hpre rfl h
end Go.Proofs.YtpbenelmklggcaaGreat

/- Chapter 2: SpreadOf. -/
namespace Go.Proofs.YtpbenelmklggcaaGreat
set_option maxRecDepth 20000
open Go.RowKit Go.Am
attribute [local irreducible] aPlan aGet aIf aLoop aCall RetB NextB CallB CallG aCut aSet aAppend

/-- The steps by which a shape is read over another one. -/
def sst (xs ys : List Int) : List Int := (List.range ys.length).map fun j => if ys.length - xs.length ≤ j ∧ 1 < xs.getD (j - (ys.length - xs.length)) 0 then (strides xs).getD (j - (ys.length - xs.length)) 0 else 0
theorem sst_length (xs ys : List Int) : (sst xs ys).length = ys.length := by simp [sst]
theorem sst_getD {xs ys : List Int} {j : Nat} (h : j < ys.length) : (sst xs ys).getD j 0 = if ys.length - xs.length ≤ j ∧ 1 < xs.getD (j - (ys.length - xs.length)) 0 then (strides xs).getD (j - (ys.length - xs.length)) 0 else 0 := range_getD h
theorem sst_in {xs ys : List Int} (hs : shapeOk xs = true) (hl : xs.length ≤ ys.length) {j : Nat} (hj : j < ys.length) : 0 ≤ (sst xs ys).getD j 0 ∧ (sst xs ys).getD j 0 ≤ 64 := by
  rw [sst_getD hj]
  split
  · rename_i h
    have := strides_in hs (j := j - (ys.length - xs.length)) (by omega)
    omega
  · omega
theorem sst_dot0 {xs ys ps : List Int} (hl : xs.length ≤ ys.length) : ∀ k, k ≤ ys.length - xs.length → dotTo ps (sst xs ys) k = 0
  | 0, _ => rfl
  | k + 1, hk => by
    have ih := sst_dot0 (ps := ps) hl k (by omega)
    show dotTo ps (sst xs ys) k + _ = 0
    rw [ih]
    by_cases h : k < ys.length
    · rw [sst_getD h, if_neg (by omega), Int.mul_zero]; rfl
    · omega
theorem sst_dot {xs ys : List Int} {i : Int} (hl : xs.length ≤ ys.length) : ∀ k, k ≤ xs.length → dotTo (places ys i) (sst xs ys) (ys.length - xs.length + k) = dotTo (px xs ys i) (strides xs) k
  | 0, _ => sst_dot0 hl _ (Nat.le_refl _)
  | k + 1, hk => by
    have ih := sst_dot (i := i) hl k (by omega)
    have e1 : dotTo (places ys i) (sst xs ys) (ys.length - xs.length + (k + 1)) = dotTo (places ys i) (sst xs ys) (ys.length - xs.length + k) + (places ys i).getD (ys.length - xs.length + k) 0 * (sst xs ys).getD (ys.length - xs.length + k) 0 := rfl
    have e2 : dotTo (px xs ys i) (strides xs) (k + 1) = dotTo (px xs ys i) (strides xs) k + (px xs ys i).getD k 0 * (strides xs).getD k 0 := rfl
    rw [e1, e2, ih, sst_getD (by omega), px_getD (by omega), show ys.length - xs.length + k - (ys.length - xs.length) = k by omega]
    by_cases h : 1 < xs.getD k 0
    · rw [if_pos ⟨by omega, h⟩, if_pos h]
    · rw [if_neg (fun h' => h h'.2), if_neg h, Int.mul_zero, Int.zero_mul]
theorem sp_all {xs ys : List Int} (h : jOk xs ys = true) (h' : jL xs ys = ys) {i : Nat} (hi : (i : Int) < cntTo ys ys.length) : spOk xs ys i := ⟨h, h', by omega, hi⟩
theorem sp_rd {xs ys : List Int} (h : jOk xs ys = true) (h' : jL xs ys = ys) {i : Nat} (hi : (i : Int) < cntTo ys ys.length) : rdAt ys (sst xs ys) 0 i = idxTo xs (px xs ys i) xs.length ∧ 0 ≤ idxTo xs (px xs ys i) xs.length ∧ idxTo xs (px xs ys i) xs.length < cntTo xs xs.length := by
  have hsp := sp_all h h' hi
  obtain ⟨a1, a2, a3, a4⟩ := sp_ok hsp
  have hp : ∀ j, j < xs.length → 0 ≤ (px xs ys i).getD j 0 ∧ (px xs ys i).getD j 0 < xs.getD j 0 := fun j hj => ⟨(px_in hsp hj).1, (px_in hsp hj).2.1⟩
  refine ⟨?_, idx_range a1 hp _ (Nat.le_refl _)⟩
  have e := sst_dot (i := i) a3 xs.length (Nat.le_refl _)
  rw [show ys.length - xs.length + xs.length = ys.length by omega] at e
  show 0 + dotTo (places ys i) (sst xs ys) ys.length = _
  rw [e, idx_dot a1 hp, Int.zero_add]
theorem sp_pre {xs zs ys : List Int} (ht : tensorOk xs zs = true) (h : jOk xs ys = true) (h' : jL xs ys = ys) : RdPre zs ys (sst xs ys) 0 := by
  obtain ⟨b1, b2⟩ := sp_facts h h'
  obtain ⟨t1, t2, t3⟩ := (tensorOk_iff _ _).1 ht
  refine ⟨b1, sst_length _ _, fun j hj => sst_in t1 b2 hj, by omega, fun i hi => ?_⟩
  obtain ⟨c1, c2, c3⟩ := sp_rd h h' hi
  omega
/-- Where index 0 has a place, every index has one. -/
theorem sp_zero {xs ys : List Int} (h : ¬ spread xs ys 0 < 0) : jOk xs ys = true ∧ jL xs ys = ys := by
  by_cases hs : spOk xs ys 0
  · exact ⟨hs.1, hs.2.1⟩
  · exfalso; apply h; unfold spread; rw [if_neg hs]; decide
theorem sp_zero' {xs ys : List Int} (h : jOk xs ys = true) (h' : jL xs ys = ys) : 0 ≤ spread xs ys 0 := by
  have hc := cnt64 (sp_facts h h').1 (Nat.le_refl _)
  have := spread_in (xs := xs) (ys := ys) (i := 0) ⟨h, h', by omega, by omega⟩
  exact this.1

def sSteps : CSpec := fnL (ι := Nat × List Int × Nat × List Int) 3 (fun | (c, xs, d, ys) => [.sl c xs.length (xs.map (.int .i64)), .sl d ys.length (ys.map (.int .i64))]) (fun | (_, xs, _, ys) => shapeOk xs = true ∧ ys.length ≤ 3 ∧ xs.length ≤ ys.length) (fun | (_, xs, _, ys) => sst xs ys)
set_option maxHeartbeats 4000000 in
set_option maxRecDepth 10000 in
theorem spreadSteps_sound : Sound Tryz.prog 124 sSteps := by
  refine sound_of Tryz.func124 rfl (enters_of Tryz.func124 (by kernel_rfl) (by kernel_rfl)) ?_
  rintro ⟨c, xs, d, ys⟩ hpre
  have hpre : shapeOk xs = true ∧ ys.length ≤ 3 ∧ xs.length ≤ ys.length := hpre
  obtain ⟨hs, hy, hxy⟩ := hpre
  have hso : stridesOf xs = strides xs := if_pos hs
  have hsl : (stridesOf xs).length = xs.length := by rw [hso, strides_length]
  have hmax : maxLen = 9223372036854775807 := rfl
  conv => whnf
  repeat' (first
    | (refine fun (_ : _ ≤ maxLen) => ?_; conv => whnf)
    | (refine And.intro (And.intro (Int.le_refl _) (And.intro (by kernel_rfl) (And.intro rfl (by kernel_rfl)))) (And.intro (And.intro (by omega) (And.intro (bytes_le (b := 8) rfl (by omega)) (by omega))) ?_); conv => whnf)
    | (refine callG_t ?_; conv => whnf)
    | (refine append_same ?_; conv => whnf)
    | (refine And.intro (pureL_ints _ _) ?_; conv => whnf)
    | (refine iStridesOf_call (by omega) ?_; conv => whnf))
  refine loop_in (ι := Nat × List Int) (fun | (k, ws) => ⟨[.un, .un, .un, .un, .un, .ref 1 2 0 (stridesOf xs).length, .ref 2 3 0 ys.length, .int .i64 (ys.length - xs.length), .un, .un, .un, .un, .un, .un, .un, .un, .un, .un, .un, .un, .sl c xs.length (xs.map (.int .i64)), .int .i64 xs.length, .int .i64 k, .un, .un, .un, .un, .un, .un, .un, .un, .un, .un, .un, .un, .un, .un, .un, .un, .un], [nl 1, li 2 (stridesOf xs), li 3 ws], 4, 0⟩)
    (fun x => x.1 ≤ xs.length ∧ x.2.length = ys.length ∧ ∀ j, j < ys.length → x.2.getD j 0 = if j < ys.length - xs.length + x.1 then (sst xs ys).getD j 0 else 0) (fun x => xs.length - x.1) (0, List.replicate ys.length 0) ⟨Nat.zero_le _, by simp, fun j hj => ?_⟩ ?_ ?_
  · show (List.replicate ys.length (0 : Int)).getD j 0 = if j < ys.length - xs.length + 0 then (sst xs ys).getD j 0 else 0
    have e : (List.replicate ys.length (0 : Int)).getD j 0 = 0 := by simp [List.getD, hj]
    rw [e]
    split
    · rw [sst_getD hj, if_neg (by omega)]
    · rfl
  · repeat' (first
      | exact trivial
      | exact rfl
      | exact pureL_ints _ _
      | exact Or.inl (And.intro rfl rfl)
      | exact le_ints rfl
      | exact le_ints (rep_ints _ _)
      | refine And.intro ?_ ?_
      | exact Nat.le_of_ble_eq_true rfl
      | exact int_eq (by rw [IntWalk.i64_in _ (by omega)] <;> omega))
  · rintro ⟨k, ws⟩ ⟨hk, hl, hall⟩
    have hk : k ≤ xs.length := hk
    have hl : ws.length = ys.length := hl
    have hall : ∀ j, j < ys.length → ws.getD j 0 = if j < ys.length - xs.length + k then (sst xs ys).getD j 0 else 0 := hall
    have hw : IntKind.i64.wrap ((ys.length : Int) - xs.length + k) = ys.length - xs.length + k := IntWalk.i64_in _ (by omega)
    have ew : (IntKind.i64.wrap ((ys.length : Int) - xs.length + k)).toNat = ys.length - xs.length + k := by omega
    conv => whnf
    repeat' (first
      | (refine get_nat0 (by omega) ?_; conv => whnf)
      | (refine get_nat (by omega) ?_; conv => whnf)
      | (refine And.intro (by omega) ?_; conv => whnf)
      | (refine append_same ?_; conv => whnf)
      | (refine And.intro rfl (And.intro rfl (And.intro (by first | omega | (rw [List.length_map]; omega)) ?_)); conv => whnf)
      | (refine set_int ?_ (by omega); conv => whnf)
      | (refine aIf_dec (fun _ => ?_) (fun _ => ?_) <;> conv => whnf))
    · rename_i hlt hx
      rw [ew]
      refine next_in (k + 1, ws.set (ys.length - xs.length + k) ((stridesOf xs).getD k 0)) (show xs.length - (k + 1) < xs.length - k by omega) ⟨(show k + 1 ≤ xs.length by omega), by simpa using hl, fun j hj => ?_⟩ ?_
      · show (ws.set (ys.length - xs.length + k) ((stridesOf xs).getD k 0)).getD j 0 = if j < ys.length - xs.length + (k + 1) then (sst xs ys).getD j 0 else 0
        rw [getD_set (by omega)]
        split
        · rename_i e
          subst e
          rw [if_pos (by omega), sst_getD hj, show ys.length - xs.length + k - (ys.length - xs.length) = k by omega, if_pos ⟨by omega, by omega⟩, hso]
        · rw [hall j hj]
          split
          · rw [if_pos (by omega)]
          · rw [if_neg (by omega)]
      · repeat' (first
          | exact trivial
          | exact rfl
          | exact pureL_ints _ _
          | exact Or.inl (And.intro rfl rfl)
          | exact le_ints rfl
          | refine And.intro ?_ ?_
          | exact Nat.le_of_ble_eq_true rfl
          | exact int_eq (by rw [IntWalk.i64_in _ (by omega)] <;> omega))
    · rename_i hlt hx
      refine next_in (k + 1, ws) (show xs.length - (k + 1) < xs.length - k by omega) ⟨(show k + 1 ≤ xs.length by omega), hl, fun j hj => ?_⟩ ?_
      · show ws.getD j 0 = if j < ys.length - xs.length + (k + 1) then (sst xs ys).getD j 0 else 0
        rw [hall j hj]
        by_cases e : j = ys.length - xs.length + k
        · subst e
          rw [if_neg (by omega), if_pos (by omega), sst_getD hj, show ys.length - xs.length + k - (ys.length - xs.length) = k by omega, if_neg (by omega)]
        · split
          · rw [if_pos (by omega)]
          · rw [if_neg (by omega)]
      · repeat' (first
          | exact trivial
          | exact rfl
          | exact pureL_ints _ _
          | exact Or.inl (And.intro rfl rfl)
          | exact le_ints rfl
          | refine And.intro ?_ ?_
          | exact Nat.le_of_ble_eq_true rfl
          | exact int_eq (by rw [IntWalk.i64_in _ (by omega)] <;> omega))
    · have e : ws = sst xs ys := getD_ext (by rw [sst_length, hl]) fun j hj => by
        rw [sst_length] at hj
        rw [hall j hj, if_pos (by omega)]
      subst e
      exact retL rfl rfl rfl (sst_length _ _).symm
theorem spreadSteps_call {c d : Nat} {xs ys : List Int} {env : List AV} {rows : List Row} {ctr low : Nat} {k : AV → St → Prop} (hpre : shapeOk xs = true ∧ ys.length ≤ 3 ∧ xs.length ≤ ys.length) (h : k (.ref rows.length ctr 0 (sst xs ys).length) ⟨env, rows ++ [⟨ctr, 3, 1, (sst xs ys).map (.int .i64)⟩], ctr + 1, low⟩) :
    CallB Tryz.prog 124 ⟨env, rows, ctr, low⟩ [.sl c xs.length (xs.map (.int .i64)), .sl d ys.length (ys.map (.int .i64))] k := callL_in spreadSteps_sound (c, xs, d, ys) hpre h
def spM (xs zs ys : List Int) : TM := if tensorOk xs zs = true ∧ 0 ≤ spread xs ys 0 then (ys, rdL zs ys (sst xs ys) 0, true) else noT
theorem spM_t {xs zs ys : List Int} (h : tensorOk xs zs = true) (h' : ¬ spread xs ys 0 < 0) : spM xs zs ys = (ys, rdL zs ys (sst xs ys) 0, true) := if_pos ⟨h, by omega⟩
theorem spM_f1 {xs zs ys : List Int} (h : tensorOk xs zs = false) : spM xs zs ys = noT := if_neg (by rw [h]; exact fun h => Bool.false_ne_true h.1)
theorem spM_f2 {xs zs ys : List Int} (h : spread xs ys 0 < 0) : spM xs zs ys = noT := if_neg (fun h' => by have := h'.2; omega)
def sSpreadOf : CSpec := fnTB (ι := Nat × List Int × Nat × List Int × Nat × List Int) 3 (fun | (c, xs, d, zs, e, ys) => [.agg [.sl c xs.length (xs.map (.int .i64)), .sl d zs.length (zs.map (.int .i64))], .sl e ys.length (ys.map (.int .i64))]) (fun | (_, _, _, _, _, ys) => ys.length ≤ 1048576) (fun | (_, xs, _, zs, _, ys) => spM xs zs ys)
set_option maxHeartbeats 4000000 in
set_option maxRecDepth 10000 in
theorem iSpreadOf_sound : Sound Tryz.prog 119 sSpreadOf := by
  refine sound_of Tryz.func119 rfl (enters_of Tryz.func119 (by kernel_rfl) (by kernel_rfl)) ?_
  rintro ⟨c, xs, d, zs, e, ys⟩ hpre
  have hpre : ys.length ≤ 1048576 := hpre
  rcases tensor_or xs zs with ⟨ht, hx, hz⟩ | ht
  · conv => whnf
    repeat' (first
      | (refine plan_in (id := 3) [0, 1, 2, 3, 4, 5, 6, 7, 8, 9] (by kernel_rfl) (by kernel_rfl) ?_; conv => whnf)
      | (refine aIf_t ?_; conv => whnf)
      | (refine aIf_f ?_; conv => whnf)
      | (refine aGet_in rfl ?_; conv => whnf)
      | (refine load_same ?_; conv => whnf)
      | (refine And.intro rfl (And.intro (List.cons_ne_nil _ _) ?_); conv => whnf)
      | (refine And.intro (Nat.le_of_ble_eq_true rfl) ?_; conv => whnf)
      | (refine callG_t ?_; conv => whnf)
      | (refine iTensorOk_call ?_; conv => whnf)
      | (refine append_same ?_; conv => whnf)
      | (refine takeN_in ?_; conv => whnf)
      | (refine And.intro (pureL_ints _ _) ?_; conv => whnf)
      | (refine iSpreadIndex_call (by omega) ?_; conv => whnf)
      | (refine set_force ?_; conv => whnf)
      | (refine And.intro (by kernel_rfl) ?_; conv => whnf)
      | (refine aIf_tt (by assumption) ?_; conv => whnf)
      | refine aIf_eqf ?_
      | refine aIf_not ?_
      | (refine aIf_dec (fun _ => ?_) (fun _ => ?_) <;> conv => whnf))
    · rename_i h
      refine retTB (hM := spM_f2 h) ?_ ?_ ?_ ?_ ?_
      all_goals (first | exact rfl | decide | (simp; done))
    · rename_i h
      obtain ⟨j1, j2⟩ := sp_zero h
      obtain ⟨b1, b2⟩ := sp_facts j1 j2
      have b3 := ((shapeOk_iff _).1 b1).1
      have b4 := ((tensorOk_iff _ _).1 ht).1
      have hrd := sp_pre ht j1 j2
      repeat' (first
        | (refine plan_in (id := 3) [0, 1, 2, 3, 4, 5, 6, 7, 8, 9] (by kernel_rfl) (by kernel_rfl) ?_; conv => whnf)
        | (refine And.intro (Nat.le_of_ble_eq_true rfl) ?_; conv => whnf)
        | (refine spreadSteps_call (And.intro (by assumption) (by omega)) ?_; conv => whnf)
        | (refine readBy_call (by assumption) (by first | rfl | omega) (by first | rfl | omega) (by first | rfl | omega) ?_; conv => whnf)
        | (refine append_same ?_; conv => whnf)
        | (refine takeN_in ?_; conv => whnf)
        | (refine And.intro (pureL_ints _ _) ?_; conv => whnf)
        | (refine cut_ints ?_; conv => whnf)
        | (refine set_force ?_; conv => whnf)
        | (refine And.intro (by kernel_rfl) ?_; conv => whnf))
      refine retTB (hM := spM_t ht h) ?_ ?_ ?_ ?_ ?_
      all_goals (first | exact rfl | decide | (simp; done))
  · conv => whnf
    repeat' (first
      | (refine plan_in (id := 3) [0, 1, 2, 3, 4, 5, 6, 7, 8, 9] (by kernel_rfl) (by kernel_rfl) ?_; conv => whnf)
      | (refine aIf_t ?_; conv => whnf)
      | (refine aIf_f ?_; conv => whnf)
      | (refine load_same ?_; conv => whnf)
      | (refine And.intro rfl (And.intro (List.cons_ne_nil _ _) ?_); conv => whnf)
      | (refine And.intro (Nat.le_of_ble_eq_true rfl) ?_; conv => whnf)
      | (refine callG_t ?_; conv => whnf)
      | (refine iTensorOk_call ?_; conv => whnf)
      | (refine append_same ?_; conv => whnf)
      | (refine takeN_in ?_; conv => whnf)
      | (refine And.intro (pureL_ints _ _) ?_; conv => whnf)
      | (refine set_force ?_; conv => whnf)
      | (refine And.intro (by kernel_rfl) ?_; conv => whnf)
      | (refine aIf_ff (by assumption) ?_; conv => whnf)
      | refine aIf_eqf ?_
      | refine aIf_not ?_)
    refine retTB (hM := spM_f1 ht) ?_ ?_ ?_ ?_ ?_
    all_goals (first | exact rfl | decide | (simp; done))
end Go.Proofs.YtpbenelmklggcaaGreat

/- Chapter 2: SpreadOf of the model. -/
namespace Go.Proofs.YtpbenelmklggcaaGreat
set_option maxRecDepth 20000
open Go.RowKit Go.Am
attribute [local irreducible] aPlan aGet aIf aLoop aCall RetB NextB CallB CallG aCut aSet aAppend

def sL2Spread : CSpec := fnT (ι := Nat × List Int × Nat × List Int × Nat × List Int) 3 (fun | (c, xs, d, zs, e, ys) => [.agg [.sl c xs.length (xs.map (.int .i64)), .sl d zs.length (zs.map (.int .i64))], .sl e ys.length (ys.map (.int .i64))]) (fun | (_, xs, _, zs, _, ys) => tensorOk xs zs = true ∧ jOk xs ys = true ∧ jL xs ys = ys) (fun | (_, _, _, _, _, ys) => ys) (fun | (_, xs, _, zs, _, ys) => rdL zs ys (sst xs ys) 0)
theorem spM_len (xs zs ys : List Int) : (spM xs zs ys).1.length ≤ 3 ∧ (spM xs zs ys).2.1.length ≤ 64 := by
  by_cases h : tensorOk xs zs = true ∧ 0 ≤ spread xs ys 0
  · obtain ⟨j1, j2⟩ := sp_zero (xs := xs) (ys := ys) (by omega)
    have b1 := (sp_facts j1 j2).1
    have b3 := ((shapeOk_iff _).1 b1).1
    have hc := cnt64 b1 (Nat.le_refl _)
    rw [spM_t h.1 (by omega)]
    exact ⟨b3, by show (rdL zs ys (sst xs ys) 0).length ≤ 64; rw [rdL_length]; omega⟩
  · unfold spM; rw [if_neg h]; exact ⟨Nat.zero_le _, Nat.zero_le _⟩
theorem iSpreadOf_call {c d e : Nat} {xs zs ys : List Int} {env : List AV} {rows : List Row} {ctr low : Nat} {k : AV → St → Prop} (hpre : ys.length ≤ 1048576)
    (hk : k (.tup [.agg [.ref rows.length ctr 0 (spM xs zs ys).1.length, .ref (rows.length + 1) ctr 0 (spM xs zs ys).2.1.length], .bool (spM xs zs ys).2.2]) ⟨env, rows ++ [⟨ctr, 3, 1, (spM xs zs ys).1.map (.int .i64)⟩, ⟨ctr, 3, 1, (spM xs zs ys).2.1.map (.int .i64)⟩], ctr + 1, low⟩) :
    CallB Tryz.prog 119 ⟨env, rows, ctr, low⟩ [.agg [.sl c xs.length (xs.map (.int .i64)), .sl d zs.length (zs.map (.int .i64))], .sl e ys.length (ys.map (.int .i64))] k := callTB_in iSpreadOf_sound (c, xs, d, zs, e, ys) hpre hk
end Go.Proofs.YtpbenelmklggcaaGreat
