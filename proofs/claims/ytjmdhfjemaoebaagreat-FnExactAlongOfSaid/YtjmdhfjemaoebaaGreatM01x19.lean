import Derived.Test.YtjmdhfjemaoebaaGreatM01x16
import Derived.Test.YtjmdhfjemaoebaaGreatM01x17
import Derived.Test.YtjmdhfjemaoebaaGreatS16
import Derived.Test.YtjmdhfjemaoebaaGreatM01x15
namespace Go.Proofs.YtjmdhfjemaoebaaGreat
set_option maxRecDepth 20000
open Go.RowKit Go.Am
attribute [local irreducible] aPlan aGet aIf aLoop aCall RetB NextB CallB CallG aCut aSet aAppend
structure RdPre (nums shape steps : List Int) (start : Int) : Prop where
  sh : shapeOk shape = true
  len : steps.length = shape.length
  st : ∀ j, j < shape.length → 0 ≤ steps.getD j 0 ∧ steps.getD j 0 ≤ 64
  s0 : 0 ≤ start ∧ start ≤ 256
  at_ : ∀ i : Nat, (i : Int) < cntTo shape shape.length → 0 ≤ rdAt shape steps start i ∧ rdAt shape steps start i < nums.length
def sReadBy : CSpec := fnT (ι := Nat × List Int × Nat × List Int × Nat × List Int × Int) 3 (fun | (c, nums, d, shape, e, steps, start) => [.sl c nums.length (nums.map (.int .i64)), .sl d shape.length (shape.map (.int .i64)), .sl e steps.length (steps.map (.int .i64)), .int .i64 start]) (fun | (_, nums, _, shape, _, steps, start) => RdPre nums shape steps start) (fun | (_, _, _, shape, _, _, _) => shape) (fun | (_, nums, _, shape, _, steps, start) => rdL nums shape steps start)
set_option maxHeartbeats 4000000 in
set_option maxRecDepth 10000 in
theorem readBy_sound : Sound Tryz.prog 179 sReadBy := by
  refine sound_of Tryz.func179 rfl (enters_of Tryz.func179 (by kernel_rfl) (by kernel_rfl)) ?_
  rintro ⟨c, nums, d, shape, e, steps, start⟩ hpre
  have hpre : RdPre nums shape steps start := hpre
  obtain ⟨hsh, hlen, hst, hs0, hat⟩ := hpre
  have hn3 := ((shapeOk_iff shape).1 hsh).1
  have hc := cnt64 hsh (Nat.le_refl _)
  have hcc : countOf shape = cntTo shape shape.length := if_pos hsh
  have hmax : maxLen = 9223372036854775807 := rfl
  conv => whnf
  repeat' (first
    | ((first | refine plan_in (id := 10) [0, 1, 2, 3, 4, 5, 6, 7, 8, 9, 10, 11, 12, 13] (by kernel_rfl) (by kernel_rfl) ?_ | refine fun (_ : _ ≤ maxLen) => ?_ | refine And.intro (And.intro (Int.le_refl _) (And.intro (by kernel_rfl) (And.intro rfl (by kernel_rfl)))) (And.intro (And.intro (by omega) (And.intro (bytes_le (b := 8) rfl (by omega)) (by omega))) ?_) | refine callG_t ?_ | refine append_same ?_ | refine And.intro (pureL_ints _ _) ?_ | refine iCountOf_call ?_ | refine And.intro (by kernel_rfl) ?_); conv => whnf))
  refine loop_in (ι := Nat × List Int) (fun | (k, ws) => ⟨[.sl c nums.length (nums.map (.int .i64)), .sl d shape.length (shape.map (.int .i64)), .sl e steps.length (steps.map (.int .i64)), .int .i64 start, .un, .un, .un, .un, .ptr 2 3 0, .ref 3 5 0 (countOf shape).toNat, .un, .un, .un, .un, .un, .un, .un, .un, .int .i64 (countOf shape).toNat, .int .i64 k, .un, .un, .un, .un, .un, .un, .un, .un, .un, .un, .un, .un, .un, .un, .un, .un, .un, .un, .un, .un, .un, .un, .un, .un, .un, .un, .un, .un, .un, .un, .un, .un, .un, .un, .un, .un, .un, .un, .un, .un, .un, .un], [nl 1, nl 2, bt 3 [.ref 0 1 0 0, .ref 1 2 0 0], li 5 ws], 6, 0⟩)
    (fun x => x.1 ≤ (countOf shape).toNat ∧ x.2.length = (countOf shape).toNat ∧ ∀ j, j < x.1 → x.2.getD j 0 = nums.getD (rdAt shape steps start j).toNat 0) (fun x => (countOf shape).toNat - x.1) (0, List.replicate (countOf shape).toNat 0) ⟨Nat.zero_le _, by simp, fun j hj => absurd hj (Nat.not_lt_zero _)⟩ ?_ ?_
  · repeat' (first
      | exact trivial | exact rfl
      | exact pureL_ints _ _ | exact Or.inl (And.intro rfl rfl)
      | exact le_ints (rep_ints _ _) | refine Or.inr ?_
      | refine And.intro ?_ ?_ | exact Nat.le_of_ble_eq_true rfl)
  · rintro ⟨k, ws⟩ ⟨hk, hl, hall⟩
    have hk : k ≤ (countOf shape).toNat := hk
    have hl : ws.length = (countOf shape).toNat := hl
    have hall : ∀ j, j < k → ws.getD j 0 = nums.getD (rdAt shape steps start j).toNat 0 := hall
    conv => whnf
    repeat' (first
      | ((first | refine plan_in (id := 10) [0, 1, 2, 3, 4, 5, 6, 7, 8, 9, 10, 11, 12, 13] (by kernel_rfl) (by kernel_rfl) ?_ | refine fun (_ : _ ≤ maxLen) => ?_ | refine And.intro (Nat.le_of_ble_eq_true rfl) ?_ | refine callG_t ?_ | refine copyNums_call (by omega) ?_ | refine append_same ?_ | refine takeN_in ?_ | refine And.intro (pureL_ints _ _) ?_ | refine set_force ?_ | refine And.intro (by kernel_rfl) ?_); conv => whnf) | (refine aIf_dec (fun _ => ?_) (fun _ => ?_) <;> conv => whnf))
    · have hki : (0 : Int) ≤ (k : Int) ∧ (k : Int) < cntTo shape shape.length := by omega
      have hP : ∀ j, j < shape.length → 0 ≤ (places shape k).getD j 0 ∧ (places shape k).getD j 0 ≤ 3 := fun j hj => places_in hsh hki hj
      have hdn := dot_in hP hst shape.length (Nat.le_refl _)
      refine loop_in (ι := Nat × Int × Int) (fun | (q, at_, rest) => ⟨[.sl c nums.length (nums.map (.int .i64)), .sl d shape.length (shape.map (.int .i64)), .sl e steps.length (steps.map (.int .i64)), .int .i64 start, .un, .un, .un, .un, .ptr 2 3 0, .ref 3 5 0 (countOf shape).toNat, .int .i64 k, .int .i64 at_, .int .i64 rest, .int .i64 (q - 1), .un, .un, .un, .un, .int .i64 (countOf shape).toNat, .int .i64 k, .un, .un, .un, .un, .un, .un, .un, .un, .un, .un, .un, .un, .un, .un, .un, .un, .un, .un, .un, .un, .un, .un, .un, .un, .un, .un, .un, .un, .un, .un, .un, .un, .un, .un, .un, .un, .un, .un, .un, .un, .un, .un], [nl 1, nl 2, bt 3 [.ref 0 1 0 0, .ref 1 2 0 0], li 5 ws], 6, 0⟩)
        (fun x => x.1 ≤ shape.length ∧ x.2.1 = start + (dotTo (places shape k) steps shape.length - dotTo (places shape k) steps x.1) ∧ x.2.2 = quoT shape k (shape.length - x.1)) (fun x => x.1) (shape.length, start, k) ⟨Nat.le_refl _, (show start = start + (dotTo (places shape k) steps shape.length - dotTo (places shape k) steps shape.length) by omega), by rw [Nat.sub_self]; rfl⟩ ?_ ?_
      · repeat' (first
          | exact trivial | exact rfl
          | exact pureL_ints _ _ | exact Or.inl (And.intro rfl rfl)
          | exact le_ints rfl | refine Or.inr ?_
          | refine And.intro ?_ ?_ | exact Nat.le_of_ble_eq_true rfl
          | exact int_eq (by rw [IntWalk.i64_in _ (by omega)] <;> omega))
      · rintro ⟨q, at_, rest⟩ ⟨hq, hat_, hrest⟩
        have hq : q ≤ shape.length := hq
        have hat_ : at_ = start + (dotTo (places shape k) steps shape.length - dotTo (places shape k) steps q) := hat_
        have hrest : rest = quoT shape k (shape.length - q) := hrest
        have hdq := dot_in hP hst q hq
        by_cases h0 : q = 0
        · subst h0
          have e0 : at_ = rdAt shape steps start k := by
            rw [hat_]; show _ = start + _
            have : dotTo (places shape k) steps 0 = 0 := rfl
            omega
          have h9 := hat k hki.2
          rw [← e0] at h9
          conv => whnf
          repeat' (first
            | ((first | refine plan_in (id := 10) [0, 1, 2, 3, 4, 5, 6, 7, 8, 9, 10, 11, 12, 13] (by kernel_rfl) (by kernel_rfl) ?_ | refine aIf_f ?_ | refine get_int (by omega) ?_ | refine And.intro (by omega) ?_ | refine append_same ?_ | refine And.intro rfl (And.intro rfl (And.intro (by first | omega | (rw [List.length_map]; omega)) ?_)) | refine set_nat ?_ (by omega)); conv => whnf))
          all_goals (first | (exfalso; omega) | skip)
          · refine next_in (k + 1, ws.set k (nums.getD at_.toNat 0)) (show (countOf shape).toNat - (k + 1) < (countOf shape).toNat - k by omega) ⟨(show k + 1 ≤ (countOf shape).toNat by omega), by simpa using hl, fun j hj => ?_⟩ ?_
            · have hj : j < k + 1 := hj
              show (ws.set k (nums.getD at_.toNat 0)).getD j 0 = _
              rw [getD_set (by omega)]
              split
              · rename_i e; rw [← e, e0]
              · exact hall j (by omega)
            · repeat' (first
                | exact trivial | exact rfl
                | exact pureL_ints _ _ | exact Or.inl (And.intro rfl rfl)
                | exact le_ints rfl | refine Or.inr ?_
                | refine And.intro ?_ ?_ | exact Nat.le_of_ble_eq_true rfl
                | exact int_eq (by rw [IntWalk.i64_in _ (by omega)] <;> omega))
        · obtain ⟨q, rfl⟩ : ∃ q', q = q' + 1 := ⟨q - 1, by omega⟩
          have e1 : (((q + 1 : Nat) : Int) - 1).toNat = q := by omega
          have hz := size_in hsh (j := q) (by omega)
          have hz' : 1 ≤ shape.getD (((q + 1 : Nat) : Int) - 1).toNat 0 ∧ shape.getD (((q + 1 : Nat) : Int) - 1).toNat 0 ≤ 4 := by rw [e1]; exact hz
          have e2 := quoT_next (zs := shape) (i := k) hq
          have e3 : rest.tmod (shape.getD q 0) = (places shape k).getD q 0 := by
            rw [places_getD (by omega), hrest]; congr 2; omega
          have hm := mul_in (hP q (by omega)) (hst q (by omega))
          have hd1 := dot_in hP hst (q + 1) hq
          have hd0 := dot_in hP hst q (by omega)
          have hmo := dot_mono hP hst (q := q + 1) (shape.length - (q + 1)) (by omega)
          rw [show q + 1 + (shape.length - (q + 1)) = shape.length by omega] at hmo
          have hds : dotTo (places shape k) steps (q + 1) = dotTo (places shape k) steps q + (places shape k).getD q 0 * steps.getD q 0 := rfl
          conv => whnf
          repeat' (first
            | ((first | refine plan_in (id := 10) [0, 1, 2, 3, 4, 5, 6, 7, 8, 9, 10, 11, 12, 13] (by kernel_rfl) (by kernel_rfl) ?_ | refine get_nat (by omega) ?_ | refine get_int (by omega) ?_ | refine And.intro (by omega) ?_ | refine append_same ?_ | refine set_nat ?_ (by omega)); conv => whnf) | (refine aIf_dec (fun _ => ?_) (fun _ => ?_) <;> conv => whnf))
          all_goals (first | (exfalso; omega) | skip)
          rw [e1]
          refine next_in (q, IntKind.i64.wrap (at_ + IntKind.i64.wrap (rest.tmod (shape.getD q 0) * steps.getD q 0)), IntKind.i64.wrap (rest.tdiv (shape.getD q 0))) (Nat.lt_succ_self _) ⟨(show q ≤ shape.length by omega), ?_, ?_⟩ ?_
          · show IntKind.i64.wrap (at_ + IntKind.i64.wrap (rest.tmod (shape.getD q 0) * steps.getD q 0)) = start + (dotTo (places shape k) steps shape.length - dotTo (places shape k) steps q)
            rw [e3, IntWalk.i64_in ((places shape k).getD q 0 * steps.getD q 0) (by omega), IntWalk.i64_in _ (by omega)]
            omega
          · show IntKind.i64.wrap (rest.tdiv (shape.getD q 0)) = quoT shape k (shape.length - q)
            rw [e2, ← hrest]
          · repeat' (first
              | exact trivial | exact rfl
              | exact pureL_ints _ _ | exact Or.inl (And.intro rfl rfl)
              | exact le_ints rfl | refine Or.inr ?_
              | refine And.intro ?_ ?_ | exact Nat.le_of_ble_eq_true rfl
              | exact int_eq (by rw [IntWalk.i64_in _ (by omega)] <;> omega))
    · have e : ws = rdL nums shape steps start := getD_ext (by rw [rdL_length, hl, hcc]) fun j hj => by
        rw [rdL_length] at hj
        rw [hall j (by omega), rdL_getD hj]
      subst e
      refine retT ?_ ?_ ?_ ?_ ?_
      all_goals (first | exact rfl | decide | (rw [rdL_length, hcc]; done) | (simp; done))
theorem readBy_call {c d e n1 n2 n3 : Nat} {nums shape steps : List Int} {start : Int} {env : List AV} {rows : List Row} {ctr low : Nat} {k : AV → St → Prop} (hpre : RdPre nums shape steps start) (e1 : n1 = nums.length) (e2 : n2 = shape.length) (e3 : n3 = steps.length)
    (hk : k (.agg [.ref rows.length ctr 0 shape.length, .ref (rows.length + 1) ctr 0 (rdL nums shape steps start).length]) ⟨env, rows ++ [⟨ctr, 3, 1, shape.map (.int .i64)⟩, ⟨ctr, 3, 1, (rdL nums shape steps start).map (.int .i64)⟩], ctr + 1, low⟩) :
    CallB Tryz.prog 179 ⟨env, rows, ctr, low⟩ [.sl c n1 (nums.map (.int .i64)), .sl d n2 (shape.map (.int .i64)), .sl e n3 (steps.map (.int .i64)), .int .i64 start] k := by
  subst e1; subst e2; subst e3
  exact callT_in readBy_sound (c, nums, d, shape, e, steps, start) hpre hk
end Go.Proofs.YtjmdhfjemaoebaaGreat
namespace Go.Proofs.YtjmdhfjemaoebaaGreat
set_option maxRecDepth 20000
open Go.RowKit Go.Am
attribute [local irreducible] aPlan aGet aIf aLoop aCall RetB NextB CallB CallG aCut aSet aAppend
theorem turn_mem {ax : List Int} {n : Nat} (h : turnOk ax n = true) : ax ∈ turnsOf n := by
  obtain ⟨⟨h3, hl⟩, hin⟩ := turnOk_in h
  have hln : ax.length = n := by omega
  subst hln
  match ax, h3, hin, h with
  | [], _, _, _ => simp [turnsOf]
  | [a], _, hin, _ =>
    have ha := hin 0 (by simp)
    simp at ha
    have : a = 0 := by omega
    subst this; simp [turnsOf]
  | [a, b], _, hin, h =>
    have ha := hin 0 (by simp)
    have hb := hin 1 (by simp)
    simp at ha hb
    have ha : a = 0 ∨ a = 1 := by omega
    have hb : b = 0 ∨ b = 1 := by omega
    rcases ha with rfl | rfl <;> rcases hb with rfl | rfl <;> first | (simp [turnsOf]; done) | (exact absurd h (by decide))
  | [a, b, c], _, hin, h =>
    have ha := hin 0 (by simp)
    have hb := hin 1 (by simp)
    have hc := hin 2 (by simp)
    simp at ha hb hc
    have ha : a = 0 ∨ a = 1 ∨ a = 2 := by omega
    have hb : b = 0 ∨ b = 1 ∨ b = 2 := by omega
    have hc : c = 0 ∨ c = 1 ∨ c = 2 := by omega
    rcases ha with rfl | rfl | rfl <;> rcases hb with rfl | rfl | rfl <;> rcases hc with rfl | rfl | rfl <;> first | (simp [turnsOf]; done) | (exact absurd h (by decide))
  | _ :: _ :: _ :: _ :: _, h3, _, _ => simp only [List.length_cons] at h3; omega
structure TurnFacts (xs ax : List Int) : Prop where
  cnt : cntTo (turned xs ax) (turned xs ax).length = cntTo xs xs.length
  sh : shapeOk (turned xs ax) = true
  f : ∀ i : Nat, (i : Int) < cntTo xs xs.length → 0 ≤ turnF xs ax i ∧ turnF xs ax i < cntTo xs xs.length ∧ turnG xs ax (turnF xs ax i).toNat = i
  g : ∀ i : Nat, (i : Int) < cntTo xs xs.length → 0 ≤ turnG xs ax i ∧ turnG xs ax i < cntTo xs xs.length ∧ turnF xs ax (turnG xs ax i).toNat = i
theorem turn_facts {xs ax : List Int} (hs : shapeOk xs = true) (h : turnOk ax xs.length = true) : TurnFacts xs ax := by
  have ha := turnAll_t hs
  unfold turnAll at ha
  rw [List.all_eq_true] at ha
  have ha := ha ax (turn_mem h)
  simp only [Bool.and_eq_true, beq_iff_eq] at ha
  obtain ⟨⟨h1, h2⟩, h3⟩ := ha
  unfold turnChk at h1
  rw [List.all_eq_true] at h1
  have hc := cnt64 hs (Nat.le_refl _)
  have e : ((cntN xs : Nat) : Int) = cntTo xs xs.length := by unfold cntN; omega
  have each : ∀ i : Nat, (i : Int) < cntTo xs xs.length → _ := fun i hi => h1 i (List.mem_range.2 (by omega))
  simp only [Bool.and_eq_true, decide_eq_true_eq, beq_iff_eq, e] at each
  refine ⟨h2, h3, fun i hi => ?_, fun i hi => ?_⟩
  · obtain ⟨⟨⟨⟨⟨a1, a2⟩, a3⟩, a4⟩, a5⟩, a6⟩ := each i hi
    exact ⟨a1, a2, a6⟩
  · obtain ⟨⟨⟨⟨⟨a1, a2⟩, a3⟩, a4⟩, a5⟩, a6⟩ := each i hi
    exact ⟨a3, a4, a5⟩
def turnM (xs zs ax : List Int) : TM := if tensorOk xs zs = true ∧ turnOk ax xs.length = true then (turned xs ax, rdL zs (turned xs ax) (turned (strides xs) ax) 0, true) else noT
theorem turnM_t {xs zs ax : List Int} (h : tensorOk xs zs = true) (h' : turnOk ax xs.length = true) : turnM xs zs ax = (turned xs ax, rdL zs (turned xs ax) (turned (strides xs) ax) 0, true) := if_pos ⟨h, h'⟩
theorem turnM_f1 {xs zs ax : List Int} (h : tensorOk xs zs = false) : turnM xs zs ax = noT := if_neg (by rw [h]; exact fun h => Bool.false_ne_true h.1)
theorem turnM_f2 {xs zs ax : List Int} (h : turnOk ax xs.length = false) : turnM xs zs ax = noT := if_neg (by rw [h]; exact fun h => Bool.false_ne_true h.2)
theorem turn_pre {xs zs ax : List Int} (ht : tensorOk xs zs = true) (h : turnOk ax xs.length = true) : RdPre zs (turned xs ax) (turned (strides xs) ax) 0 := by
  obtain ⟨t1, t2, t3⟩ := (tensorOk_iff _ _).1 ht
  have hf := turn_facts t1 h
  have hin := (turnOk_in h).2
  refine ⟨hf.sh, by rw [turned_length, turned_length], fun j hj => ?_, by omega, fun i hi => ?_⟩
  · rw [turned_length] at hj
    have hj' := hin j hj
    rw [turned_getD hj]
    have := strides_in t1 (j := (ax.getD j 0).toNat) (by omega)
    omega
  · rw [hf.cnt] at hi
    have := hf.g i hi
    have e : rdAt (turned xs ax) (turned (strides xs) ax) 0 i = turnG xs ax i := rfl
    rw [e]; omega
def sTurnOf : CSpec := fnTB (ι := Nat × List Int × Nat × List Int × Nat × List Int) 3 (fun | (c, xs, d, zs, e, ax) => [.agg [.sl c xs.length (xs.map (.int .i64)), .sl d zs.length (zs.map (.int .i64))], .sl e ax.length (ax.map (.int .i64))]) (fun | (_, xs, _, _, _, ax) => xs.length ≤ 1048576 ∧ ax.length ≤ 1048576) (fun | (_, xs, _, zs, _, ax) => turnM xs zs ax)
set_option maxHeartbeats 4000000 in
set_option maxRecDepth 10000 in
theorem iTurnOf_sound : Sound Tryz.prog 166 sTurnOf := by
  refine sound_of Tryz.func166 rfl (enters_of Tryz.func166 (by kernel_rfl) (by kernel_rfl)) ?_
  rintro ⟨c, xs, d, zs, e, ax⟩ hpre
  have hpre : xs.length ≤ 1048576 ∧ ax.length ≤ 1048576 := hpre
  have hmax : maxLen = 9223372036854775807 := rfl
  rcases tensor_or xs zs with ⟨ht, hx, hz⟩ | ht
  · by_cases hu : turnOk ax xs.length = true
    · have hs := ((tensorOk_iff _ _).1 ht).1
      have hts : tsOk xs ax = true := by unfold tsOk; rw [hs, hu]; rfl
      have htl : tsL xs ax = turned xs ax := if_pos hts
      have htn : (tsL xs ax).length = ax.length := by rw [htl, turned_length]
      have hin := turnOk_in hu
      have hso : stridesOf xs = strides xs := if_pos hs
      have hsl : (stridesOf xs).length = xs.length := by rw [hso, strides_length]
      have hrd : RdPre zs (tsL xs ax) (turned (strides xs) ax) 0 := by rw [htl]; exact turn_pre ht hu
      have hrl : (turned (strides xs) ax).length = ax.length := turned_length _ _
      have hin2 : ∀ j, j < ax.length → 0 ≤ ax.getD j 0 ∧ ax.getD j 0 < (stridesOf xs).length := fun j hj => by rw [hsl]; exact hin.2 j hj
      have hrd2 : RdPre zs (tsL xs ax) (turned (stridesOf xs) ax) 0 := by rw [hso]; exact hrd
      have hrl2 : (turned (stridesOf xs) ax).length = ax.length := turned_length _ _
      conv => whnf
      repeat' (first
        | ((first | refine aIf_t ?_ | refine aIf_f ?_ | refine aGet_in rfl ?_ | refine load_same ?_ | refine And.intro rfl (And.intro (List.cons_ne_nil _ _) ?_) | refine And.intro (Nat.le_of_ble_eq_true rfl) ?_ | refine callG_t ?_ | refine readBy_call (by assumption) (by first | rfl | omega) (by first | rfl | omega) (by first | rfl | omega) ?_ | refine iTensorOk_call ?_); conv => whnf) | (refine pickNums_call (by first | omega | assumption | (refine ⟨?_, ?_⟩ <;> first | assumption | omega) | (refine ⟨?_, ?_, ?_⟩ <;> first | assumption | omega)) ?_; conv => whnf) | ((first | refine append_same ?_ | refine takeN_in ?_ | refine And.intro (pureL_ints _ _) ?_ | refine cut_ints ?_ | refine iTurnShape_call (by omega) ?_ | refine iStridesOf_call (by omega) ?_ | refine set_force ?_ | refine And.intro (by kernel_rfl) ?_ | refine aIf_tt (by assumption) ?_); conv => whnf) | refine aIf_eqf ?_
        | refine aIf_not ?_)
      have hM : turnM xs zs ax = (tsL xs ax, rdL zs (tsL xs ax) (turned (stridesOf xs) ax) 0, true) := by rw [htl, hso]; exact turnM_t ht hu
      refine retTB (hM := hM) ?_ ?_ ?_ ?_ ?_
      all_goals (first | exact rfl | decide | (simp; done))
    · have hu : turnOk ax xs.length = false := by simpa using hu
      have hts : tsOk xs ax = false := by unfold tsOk; rw [hu, Bool.and_false]
      conv => whnf
      repeat' (first
        | ((first | refine aIf_t ?_ | refine aIf_f ?_ | refine aGet_in rfl ?_ | refine And.intro rfl (And.intro (List.cons_ne_nil _ _) ?_) | refine And.intro (Nat.le_of_ble_eq_true rfl) ?_ | refine callG_t ?_ | refine append_same ?_ | refine takeN_in ?_ | refine And.intro (pureL_ints _ _) ?_ | refine iTurnShape_call (by omega) ?_ | refine set_force ?_ | refine And.intro (by kernel_rfl) ?_ | refine aIf_ff (by assumption) ?_); conv => whnf) | refine aIf_eqf ?_
        | refine aIf_not ?_)
      refine retTB (hM := turnM_f2 hu) ?_ ?_ ?_ ?_ ?_
      all_goals (first | exact rfl | decide | (simp; done))
  · cases hts : tsOk xs ax
    · conv => whnf
      repeat' (first
        | ((first | refine aIf_t ?_ | refine aIf_f ?_ | refine aGet_in rfl ?_ | refine And.intro rfl (And.intro (List.cons_ne_nil _ _) ?_) | refine And.intro (Nat.le_of_ble_eq_true rfl) ?_ | refine callG_t ?_ | refine append_same ?_ | refine takeN_in ?_ | refine And.intro (pureL_ints _ _) ?_ | refine iTurnShape_call (by omega) ?_ | refine set_force ?_ | refine And.intro (by kernel_rfl) ?_ | refine aIf_ff (by assumption) ?_); conv => whnf) | refine aIf_eqf ?_
        | refine aIf_not ?_)
      refine retTB (hM := turnM_f1 ht) ?_ ?_ ?_ ?_ ?_
      all_goals (first | exact rfl | decide | (simp; done))
    · conv => whnf
      repeat' (first
        | ((first | refine aIf_t ?_ | refine aIf_f ?_ | refine aGet_in rfl ?_ | refine load_same ?_ | refine And.intro rfl (And.intro (List.cons_ne_nil _ _) ?_) | refine And.intro (Nat.le_of_ble_eq_true rfl) ?_ | refine callG_t ?_ | refine iTensorOk_call ?_ | refine append_same ?_ | refine takeN_in ?_ | refine And.intro (pureL_ints _ _) ?_ | refine iTurnShape_call (by omega) ?_ | refine set_force ?_ | refine And.intro (by kernel_rfl) ?_ | refine aIf_tt (by assumption) ?_ | refine aIf_ff (by assumption) ?_); conv => whnf) | refine aIf_eqf ?_
        | refine aIf_not ?_)
      refine retTB (hM := turnM_f1 ht) ?_ ?_ ?_ ?_ ?_
      all_goals (first | exact rfl | decide | (simp; done))
end Go.Proofs.YtjmdhfjemaoebaaGreat
namespace Go.Proofs.YtjmdhfjemaoebaaGreat
set_option maxRecDepth 20000
open Go.RowKit Go.Am
attribute [local irreducible] aPlan aGet aIf aLoop aCall RetB NextB CallB CallG aCut aSet aAppend
def sL2Turn : CSpec := fnT (ι := Nat × List Int × Nat × List Int × Nat × List Int) 3 (fun | (c, xs, d, zs, e, ax) => [.agg [.sl c xs.length (xs.map (.int .i64)), .sl d zs.length (zs.map (.int .i64))], .sl e ax.length (ax.map (.int .i64))]) (fun | (_, xs, _, zs, _, ax) => tensorOk xs zs = true ∧ turnOk ax xs.length = true) (fun | (_, xs, _, _, _, ax) => turned xs ax) (fun | (_, xs, _, zs, _, ax) => rdL zs (turned xs ax) (turned (strides xs) ax) 0)
set_option maxHeartbeats 4000000 in
set_option maxRecDepth 10000 in
theorem l2Turn_sound : Sound Tryz.prog 109 sL2Turn := by
  refine sound_of Tryz.func109 rfl (enters_of Tryz.func109 (by kernel_rfl) (by kernel_rfl)) ?_
  rintro ⟨c, xs, d, zs, e, ax⟩ hpre
  have hpre : tensorOk xs zs = true ∧ turnOk ax xs.length = true := hpre
  obtain ⟨ht, hu⟩ := hpre
  obtain ⟨hs, t2, t3⟩ := (tensorOk_iff _ _).1 ht
  have hin := turnOk_in hu
  have hi2 : ax.length ≤ 3 ∧ ∀ k, k < ax.length → 0 ≤ ax.getD k 0 ∧ ax.getD k 0 < xs.length := ⟨by omega, hin.2⟩
  have hx := tensor_len ht
  have hmax : maxLen = 9223372036854775807 := rfl
  conv => whnf
  repeat' (first
    | ((first | refine plan_in (id := 6) [0, 1, 2, 3, 4, 5, 6, 8, 11, 12, 13, 14, 15, 7, 9, 10, 16, 17] (by kernel_rfl) (by kernel_rfl) ?_ | refine fun (_ : _ ≤ maxLen) => ?_ | refine aGet_in rfl ?_ | refine And.intro (And.intro (Int.le_refl _) (And.intro (by kernel_rfl) (And.intro rfl (by kernel_rfl)))) (And.intro (And.intro (by omega) (And.intro (bytes_le (b := 8) rfl (by omega)) (by omega))) ?_) | refine And.intro rfl (And.intro (List.cons_ne_nil _ _) ?_) | refine And.intro (Nat.le_of_ble_eq_true rfl) ?_ | refine callG_t ?_ | refine append_same ?_ | refine And.intro (pureL_ints _ _) ?_ | refine l1Turn_call (by assumption) ?_ | refine set_force ?_ | refine And.intro (by kernel_rfl) ?_); conv => whnf))
  refine loop_in (ι := Nat × List Int) (fun | (k, ws) => ⟨[.un, .sl e ax.length (ax.map (.int .i64)), .ptr 0 1 0, .un, .ptr 3 4 0, .ptr 8 9 0, .int .i64 k, .un, .un, .un, .un, .un, .un, .un, .un, .un, .un, .un, .un, .un, .un, .un, .un, .un, .un, .un, .un, .un, .un, .un, .un, .un, .un, .un, .un, .un, .un, .un, .un, .un, .un, .un], [bt 1 [.sl c xs.length (xs.map (.int .i64)), .sl d zs.length (zs.map (.int .i64))], nl 2, nl 3, bt 4 [.ref 1 2 0 0, .ref 2 3 0 0], li 5 (turned xs ax), nl 6, nl 7, nl 8, bt 9 [.ref 4 5 0 (turned xs ax).length, .ref 9 10 0 zs.length], li 10 ws], 11, 0⟩)
    (fun x => x.1 ≤ zs.length ∧ x.2.length = zs.length ∧ ∀ j, j < x.1 → x.2.getD (turnF xs ax j).toNat 0 = zs.getD j 0) (fun x => zs.length - x.1) (0, List.replicate zs.length 0) ⟨Nat.zero_le _, by simp, fun j hj => absurd hj (Nat.not_lt_zero _)⟩ ?_ ?_
  · repeat' (first
      | exact trivial | exact rfl
      | exact pureL_ints _ _ | exact Or.inl (And.intro rfl rfl)
      | exact le_ints rfl | exact le_ints (rep_ints _ _)
      | exact Or.inl (And.intro (pureL_pair _ _ _ _ _ _) rfl) | refine Or.inr ?_
      | refine And.intro ?_ ?_ | exact Nat.le_of_ble_eq_true rfl)
  · rintro ⟨k, ws⟩ ⟨hk, hl, hall⟩
    have hk : k ≤ zs.length := hk
    have hl : ws.length = zs.length := hl
    have hall : ∀ j, j < k → ws.getD (turnF xs ax j).toNat 0 = zs.getD j 0 := hall
    have hf := turn_facts hs hu
    have hpl : (places xs k).length = xs.length := places_length _ _
    have hi3 : ax.length ≤ 3 ∧ ∀ j, j < ax.length → 0 ≤ ax.getD j 0 ∧ ax.getD j 0 < (places xs k).length := ⟨by omega, fun j hj => by rw [hpl]; exact hin.2 j hj⟩
    have hl1 : (turned (places xs k) ax).length = (turned xs ax).length := by rw [turned_length, turned_length]
    by_cases hlt : k < zs.length
    · obtain ⟨f1, f2, f3⟩ := hf.f k (by omega)
      have f4 : turnF xs ax k = idxTo (turned xs ax) (turned (places xs k) ax) (turned xs ax).length := rfl
      conv => whnf
      repeat' (first
        | ((first | refine plan_in (id := 6) [0, 1, 2, 3, 4, 5, 6, 8, 11, 12, 13, 14, 15, 7, 9, 10, 16, 17] (by kernel_rfl) (by kernel_rfl) ?_ | refine fun (_ : _ ≤ maxLen) => ?_ | refine get_nat (by omega) ?_ | refine aGet_in rfl ?_ | refine And.intro (by omega) ?_ | refine load_same ?_ | refine append_same ?_ | refine takeN_in ?_ | refine And.intro (pureL_ints _ _) ?_ | refine cut_ints ?_ | refine l1Index_call (by assumption) ?_ | refine l1Turn_call (by assumption) ?_ | refine l1Place_call (by assumption) ?_ | refine And.intro rfl (And.intro rfl (And.intro (by first | omega | (rw [List.length_map]; omega)) ?_)) | refine set_int ?_ (by omega) | refine set_force ?_); conv => whnf) | (refine aIf_dec (fun _ => ?_) (fun _ => ?_) <;> conv => whnf))
      all_goals (first | (exfalso; omega) | skip)
      rw [← f4]
      refine next_in (k + 1, ws.set (turnF xs ax k).toNat (zs.getD k 0)) (show zs.length - (k + 1) < zs.length - k by omega) ⟨(show k + 1 ≤ zs.length by omega), by simpa using hl, fun j hj => ?_⟩ ?_
      · have hj : j < k + 1 := hj
        show (ws.set (turnF xs ax k).toNat (zs.getD k 0)).getD (turnF xs ax j).toNat 0 = zs.getD j 0
        rw [getD_set (by omega)]
        by_cases e : j = k
        · subst e; rw [if_pos rfl]
        · obtain ⟨g1, g2, g3⟩ := hf.f j (by omega)
          rw [if_neg (fun e' => e (by rw [← e'] at g3; rw [f3] at g3; omega))]
          exact hall j (by omega)
      · repeat' (first
          | exact trivial | exact rfl
          | exact pureL_ints _ _ | exact Or.inl (And.intro rfl rfl)
          | exact le_ints rfl | exact Or.inl (And.intro (pureL_pair _ _ _ _ _ _) rfl)
          | refine Or.inr ?_ | refine And.intro ?_ ?_
          | exact Nat.le_of_ble_eq_true rfl | exact int_eq (by rw [IntWalk.i64_in _ (by omega)] <;> omega))
    · conv => whnf
      repeat' (first
        | ((first | refine plan_in (id := 6) [0, 1, 2, 3, 4, 5, 6, 8, 11, 12, 13, 14, 15, 7, 9, 10, 16, 17] (by kernel_rfl) (by kernel_rfl) ?_ | refine fun (_ : _ ≤ maxLen) => ?_ | refine get_nat (by omega) ?_ | refine aGet_in rfl ?_ | refine And.intro (by omega) ?_ | refine load_same ?_ | refine And.intro (Nat.le_of_ble_eq_true rfl) ?_ | refine append_same ?_ | refine takeN_in ?_ | refine cut_ints ?_ | refine l1Index_call (by assumption) ?_ | refine l1Turn_call (by assumption) ?_ | refine l1Place_call (by assumption) ?_ | refine set_nat ?_ (by omega) | refine set_force ?_ | refine And.intro (by kernel_rfl) ?_); conv => whnf) | (refine aIf_dec (fun _ => ?_) (fun _ => ?_) <;> conv => whnf))
      all_goals (first | (exfalso; omega) | skip)
      have e : ws = rdL zs (turned xs ax) (turned (strides xs) ax) 0 := getD_ext (by rw [rdL_length, hf.cnt]; omega) fun j hj => by
        rw [rdL_length, hf.cnt] at hj
        obtain ⟨g1, g2, g3⟩ := hf.g j (by omega)
        rw [rdL_getD (by rw [hf.cnt]; exact hj)]
        have h9 := hall (turnG xs ax j).toNat (by omega)
        rw [g3, Int.toNat_natCast] at h9
        exact h9
      subst e
      refine retT ?_ ?_ ?_ ?_ ?_
      all_goals (first | exact rfl | decide | (rw [rdL_length, hf.cnt]; omega) | (simp; done))
theorem l2Turn_call {c d e : Nat} {xs zs ax : List Int} {env : List AV} {rows : List Row} {ctr low : Nat} {k : AV → St → Prop} (hpre : tensorOk xs zs = true ∧ turnOk ax xs.length = true)
    (hk : k (.agg [.ref rows.length ctr 0 (turned xs ax).length, .ref (rows.length + 1) ctr 0 (rdL zs (turned xs ax) (turned (strides xs) ax) 0).length]) ⟨env, rows ++ [⟨ctr, 3, 1, (turned xs ax).map (.int .i64)⟩, ⟨ctr, 3, 1, (rdL zs (turned xs ax) (turned (strides xs) ax) 0).map (.int .i64)⟩], ctr + 1, low⟩) :
    CallB Tryz.prog 109 ⟨env, rows, ctr, low⟩ [.agg [.sl c xs.length (xs.map (.int .i64)), .sl d zs.length (zs.map (.int .i64))], .sl e ax.length (ax.map (.int .i64))] k := callT_in l2Turn_sound (c, xs, d, zs, e, ax) hpre hk
theorem iTurnOf_call {c d e : Nat} {xs zs ax : List Int} {env : List AV} {rows : List Row} {ctr low : Nat} {k : AV → St → Prop} (hpre : xs.length ≤ 1048576 ∧ ax.length ≤ 1048576)
    (hk : k (.tup [.agg [.ref rows.length ctr 0 (turnM xs zs ax).1.length, .ref (rows.length + 1) ctr 0 (turnM xs zs ax).2.1.length], .bool (turnM xs zs ax).2.2]) ⟨env, rows ++ [⟨ctr, 3, 1, (turnM xs zs ax).1.map (.int .i64)⟩, ⟨ctr, 3, 1, (turnM xs zs ax).2.1.map (.int .i64)⟩], ctr + 1, low⟩) :
    CallB Tryz.prog 166 ⟨env, rows, ctr, low⟩ [.agg [.sl c xs.length (xs.map (.int .i64)), .sl d zs.length (zs.map (.int .i64))], .sl e ax.length (ax.map (.int .i64))] k := callTB_in iTurnOf_sound (c, xs, d, zs, e, ax) hpre hk
end Go.Proofs.YtjmdhfjemaoebaaGreat
namespace Go.Proofs.YtjmdhfjemaoebaaGreat
set_option maxRecDepth 20000
open Go.RowKit Go.Am
def toldPost (t : TypeId) (xs zs : List Int) (r : AV) (ic : List (List AV)) (news : List Row) : Prop :=
  ic = [xs.map (.int .i64), zs.map (.int .i64)] ∧ ((tensorOk xs zs = true ∧ r = .tup [.agg [.ref 0 0 0 xs.length, .ref 1 0 0 zs.length], .bool true] ∧ news = []) ∨
    (tensorOk xs zs = false ∧ r = .tup [.agg [.ref 2 0 0 0, .ref 3 0 0 0], .bool false] ∧ news = [rowL t [], rowL t []]))
def sOrNone : CSpec := { ι := List Int × List Int, inout := [true, true], args := fun x => [.ref 0 0 0 x.1.length, .ref 1 0 0 x.2.length], ins := fun x => [⟨0, 3, 1, x.1.map (.int .i64)⟩, ⟨0, 3, 1, x.2.map (.int .i64)⟩], pre := fun _ => True, post := fun x => toldPost 3 x.1 x.2 }
theorem toldCall {f : FuncId} {sp : CSpec} {env : List AV} {rows : List Row} {ctr low τ1 τ2 v1 v2 : Nat} {args : List AV} {k : AV → St → Prop} (xs zs : List Int) (x : sp.ι) (hs : Sound Tryz.prog f sp) (hpre : sp.pre x) (hins : sp.ins x = [⟨0, 3, 1, xs.map (.int .i64)⟩, ⟨0, 3, 1, zs.map (.int .i64)⟩]) (hpost : sp.post x = toldPost 3 xs zs)
    (h1 : rows[τ1]? = some ⟨v1, 3, 1, xs.map (.int .i64)⟩) (h2 : rows[τ2]? = some ⟨v2, 3, 1, zs.map (.int .i64)⟩) (hne : τ1 ≠ τ2) (ha : callArgs ⟨env, rows, ctr, low⟩ [τ1, τ2] sp.inout args = some (sp.args x))
    (ht : tensorOk xs zs = true → k (.tup [.agg [.ref τ1 v1 0 xs.length, .ref τ2 v2 0 zs.length], .bool true]) ⟨env, setRows rows [τ1, τ2] [xs.map (.int .i64), zs.map (.int .i64)], ctr + 1, low⟩)
    (hf : tensorOk xs zs = false → k (.tup [.agg [.ref rows.length ctr 0 0, .ref (rows.length + 1) ctr 0 0], .bool false]) ⟨env, setRows rows [τ1, τ2] [xs.map (.int .i64), zs.map (.int .i64)] ++ [⟨ctr, 3, 1, []⟩, ⟨ctr, 3, 1, []⟩], ctr + 1, low⟩) :
    CallG Tryz.prog f ⟨env, rows, ctr, low⟩ args k := by
  refine .inr ⟨[τ1, τ2], sp, hs, sp.args x, _, by simpa using hne, ha, ?_, x, rfl, hins.symm, hpre, ?_⟩
  · simp [insOf, h1, h2, protL_ren (protL_ints .i64 xs), protL_ren (protL_ints .i64 zs)]
  · rw [hpost]
    rintro r ic news ⟨rfl, ⟨e, rfl, rfl⟩ | ⟨e, rfl, rfl⟩⟩ _
    · have := ht e
      simpa [St.after, St.news, AV.back, Go.Am.backL, backT, backV, verOf, h1, h2, protL_back (protL_ints .i64 xs), protL_back (protL_ints .i64 zs)] using this
    · have := hf e
      simpa [St.after, St.news, AV.back, Go.Am.backL, backT, backV, verOf, h1, h2, protL_back (protL_ints .i64 xs), protL_back (protL_ints .i64 zs), Nat.add_comm] using this
attribute [local irreducible] aPlan aGet aIf aLoop aCall RetB NextB CallB CallG aCut aSet aAppend
def wo (xs : List Int) (a : Nat) : List Int := xs.take a ++ xs.drop (a + 1)
theorem wo_length {xs : List Int} {a : Nat} (h : a < xs.length) : (wo xs a).length = xs.length - 1 := by simp [wo]; omega
theorem l2Nums_cut {c n : Nat} {zs : List Int} {cells : List AV} {env : List AV} {rows : List Row} {ctr low : Nat} {k : AV → St → Prop} (hc : cells = zs.map (.int .i64)) (hn : n = zs.length) (hpre : zs.length ≤ 1048576) (h : k (.ref rows.length ctr 0 zs.length) ⟨env, rows ++ [⟨ctr, 3, 1, zs.map (.int .i64)⟩], ctr + 1, low⟩) :
    CallB Tryz.prog 56 ⟨env, rows, ctr, low⟩ [.sl c n cells] k := by
  subst hc; subst hn; exact l2Nums_call hpre h
theorem copyNums_cut {c n : Nat} {zs : List Int} {cells : List AV} {env : List AV} {rows : List Row} {ctr low : Nat} {k : AV → St → Prop} (hc : cells = zs.map (.int .i64)) (hn : n = zs.length) (hpre : zs.length ≤ 1048576) (h : k (.ref rows.length ctr 0 zs.length) ⟨env, rows ++ [⟨ctr, 3, 1, zs.map (.int .i64)⟩], ctr + 1, low⟩) :
    CallB Tryz.prog 103 ⟨env, rows, ctr, low⟩ [.sl c n cells] k := by
  subst hc; subst hn; exact copyNums_call hpre h
set_option maxRecDepth 10000 in
theorem l2Without_sound : Sound Tryz.prog 143 (fnL (ι := Nat × List Int × Nat) 3 (fun | (c, xs, a) => [.sl c xs.length (xs.map (.int .i64)), .int .i64 a]) (fun | (_, xs, a) => xs.length ≤ 1048576 ∧ a < xs.length) (fun | (_, xs, a) => wo xs a)) := by
  refine sound_of Tryz.func143 rfl (enters_of Tryz.func143 (by kernel_rfl) (by kernel_rfl)) ?_
  rintro ⟨c, xs, a⟩ hpre
  have hpre : xs.length ≤ 1048576 ∧ a < xs.length := hpre
  have hw : IntKind.i64.wrap ((a : Int) + 1) = ((a + 1 : Nat) : Int) := (IntWalk.i64_in _ (by omega)).trans (by omega)
  have hmax : maxLen = 9223372036854775807 := rfl
  conv => whnf
  repeat' (first
    | ((first | refine And.intro (by omega) ?_ | refine And.intro (by rw [List.length_map]; omega) ?_ | refine callG_t ?_ | refine append_same ?_ | refine And.intro (pureL_take _ _ _) ?_); conv => whnf))
  have ew : (IntKind.i64.wrap ((a : Int) + 1)).toNat = a + 1 := by omega
  refine l2Nums_cut (zs := xs.take a) (by simp [List.map_take]) (by simp; omega) (by simp; omega) ?_
  conv => whnf
  repeat' (first
    | ((first | refine And.intro (by omega) ?_ | refine And.intro (by rw [List.length_map]; omega) ?_ | refine append_same ?_); conv => whnf))
  refine append_sl (zs := xs.take a) (ws := xs.drop (a + 1)) rfl (by rw [ew, Nat.mul_one, Nat.mul_one, List.take_of_length_le (by simp), List.map_drop]) (by rw [ew]; simp) rfl (by simp; omega) (Nat.zero_le _) (fun e => ?_) (fun _ => ?_)
  · have e' : wo xs a = xs.take a := by unfold wo; rw [e, List.append_nil]
    conv => whnf
    repeat' (first
      | (refine append_same ?_; conv => whnf))
    exact retL rfl rfl (by simp [e']) (by simp [e'])
  · have e' : wo xs a = xs.take a ++ xs.drop (a + 1) := rfl
    conv => whnf
    repeat' (first
      | (refine append_same ?_; conv => whnf))
    exact retL rfl rfl rfl (by rw [ew]; simp [e'])
theorem l2Without_call {c : Nat} {xs : List Int} {a : Nat} {env : List AV} {rows : List Row} {ctr low : Nat} {k : AV → St → Prop} (hpre : xs.length ≤ 1048576 ∧ a < xs.length) (h : k (.ref rows.length ctr 0 (wo xs a).length) ⟨env, rows ++ [⟨ctr, 3, 1, (wo xs a).map (.int .i64)⟩], ctr + 1, low⟩) :
    CallB Tryz.prog 143 ⟨env, rows, ctr, low⟩ [.sl c xs.length (xs.map (.int .i64)), .int .i64 a] k := callL_in l2Without_sound (c, xs, a) hpre h
set_option maxRecDepth 10000 in
theorem orNone_sound : Sound Tryz.prog 102 sOrNone := by
  refine sound_of Tryz.func102 rfl (enters_of Tryz.func102 (by kernel_rfl) (by kernel_rfl)) ?_
  rintro ⟨xs, zs⟩ -
  rcases tensor_or xs zs with ⟨ht, hx, hz⟩ | ht
  · conv => whnf
    dsimp only
    repeat' (first
      | ((first | refine load_same ?_ | refine And.intro (Nat.le_of_ble_eq_true rfl) ?_ | refine callG_t ?_ | refine iTensorOk_call ?_ | refine append_same ?_ | refine takeN_in ?_ | refine cut_ints ?_ | refine set_force ?_ | refine And.intro (by kernel_rfl) ?_ | refine aIf_tt (by assumption) ?_); conv => whnf) | refine aIf_not ?_)
    exact retKeep2 (xs := xs) (zs := zs) ⟨rfl, .inl ⟨ht, rfl, rfl⟩⟩
  · conv => whnf
    dsimp only
    repeat' (first
      | ((first | refine load_same ?_ | refine And.intro (Nat.le_of_ble_eq_true rfl) ?_ | refine callG_t ?_ | refine iTensorOk_call ?_ | refine append_same ?_ | refine takeN_in ?_ | refine cut_ints ?_ | refine set_force ?_ | refine And.intro (by kernel_rfl) ?_ | refine aIf_ff (by assumption) ?_); conv => whnf) | refine aIf_not ?_)
    refine retNew2 (xs := xs) (zs := zs) (ps := []) (qs := []) ?_ ?_ ?_ ⟨rfl, .inr ⟨ht, rfl, rfl⟩⟩
    all_goals (first | exact rfl | decide)
theorem orNone_call {env : List AV} {rows : List Row} {ctr low τ1 τ2 v1 v2 n1 n2 : Nat} {k : AV → St → Prop} (xs zs : List Int)
    (h1 : rows[τ1]? = some ⟨v1, 3, 1, xs.map (.int .i64)⟩) (h2 : rows[τ2]? = some ⟨v2, 3, 1, zs.map (.int .i64)⟩) (hne : τ1 ≠ τ2) (e1 : n1 = xs.length) (e2 : n2 = zs.length)
    (ht : tensorOk xs zs = true → k (.tup [.agg [.ref τ1 v1 0 xs.length, .ref τ2 v2 0 zs.length], .bool true]) ⟨env, setRows rows [τ1, τ2] [xs.map (.int .i64), zs.map (.int .i64)], ctr + 1, low⟩)
    (hf : tensorOk xs zs = false → k (.tup [.agg [.ref rows.length ctr 0 0, .ref (rows.length + 1) ctr 0 0], .bool false]) ⟨env, setRows rows [τ1, τ2] [xs.map (.int .i64), zs.map (.int .i64)] ++ [⟨ctr, 3, 1, []⟩, ⟨ctr, 3, 1, []⟩], ctr + 1, low⟩) :
    CallG Tryz.prog 102 ⟨env, rows, ctr, low⟩ [.ref τ1 v1 0 n1, .ref τ2 v2 0 n2] k := by
  subst e1; subst e2
  refine toldCall xs zs (sp := sOrNone) (xs, zs) orNone_sound trivial rfl rfl h1 h2 hne ?_ ht hf
  have hb : (τ1 == τ2) = false := by simpa using hne
  have a1 : callArg ⟨env, rows, ctr, low⟩ [τ1, τ2] true (.ref τ1 v1 0 xs.length) = some (.ref 0 0 0 xs.length) := by simp [callArg, AV.ren, h1, List.idxOf, List.findIdx_cons]
  have a2 : callArg ⟨env, rows, ctr, low⟩ [τ1, τ2] true (.ref τ2 v2 0 zs.length) = some (.ref 1 0 0 zs.length) := by simp [callArg, AV.ren, h2, List.idxOf, List.findIdx_cons, hb]
  show (callArg ⟨env, rows, ctr, low⟩ [τ1, τ2] true (.ref τ1 v1 0 xs.length)).bind (fun u' => ((callArg ⟨env, rows, ctr, low⟩ [τ1, τ2] true (.ref τ2 v2 0 zs.length)).bind fun u'' => some [u'']).map (u' :: ·)) = _
  rw [a1, a2]
  rfl
end Go.Proofs.YtjmdhfjemaoebaaGreat
namespace Go.Proofs.YtjmdhfjemaoebaaGreat
set_option maxRecDepth 20000
open Go.RowKit Go.Am
def stpA (xs : List Int) (a : Nat) : Int := (strides xs).getD a 0
def blkA (xs : List Int) (a : Nat) : Int := stpA xs a * xs.getD a 0
def sumI (xs : List Int) (a k : Nat) : Int := (k : Int).tdiv (blkA xs a) * stpA xs a + (k : Int).tmod (stpA xs a)
def sumS (xs : List Int) (a k : Nat) : Int := idxTo (wo xs a) (wo (places xs k) a) (wo xs a).length
def cntM (xs : List Int) : Nat := (cntTo xs xs.length).toNat
def sumChk (xs : List Int) : Bool := (List.range xs.length).all fun a => shapeOk (wo xs a) && ((cntTo xs xs.length).tdiv (xs.getD a 0) == cntTo (wo xs a) (wo xs a).length) && decide (blkA xs a ≤ 64) && decide (1 ≤ blkA xs a) &&
  (List.range (cntM xs)).all fun k => decide (0 ≤ sumI xs a k) && decide (sumI xs a k < cntTo (wo xs a) (wo xs a).length) && (sumI xs a k == sumS xs a k) && decide (0 ≤ (k : Int).tdiv (blkA xs a) * stpA xs a) && decide ((k : Int).tdiv (blkA xs a) * stpA xs a ≤ 64)
theorem sumChk_2 : shapes2.all sumChk = true := by kernel_rfl
theorem sumChk_31 : (shapes3 1).all sumChk = true := by kernel_rfl
theorem sumChk_32 : (shapes3 2).all sumChk = true := by kernel_rfl
theorem sumChk_33 : (shapes3 3).all sumChk = true := by kernel_rfl
theorem sumChk_34 : (shapes3 4).all sumChk = true := by kernel_rfl
structure SumFacts (xs : List Int) (a : Nat) : Prop where
  sh : shapeOk (wo xs a) = true
  cnt : (cntTo xs xs.length).tdiv (xs.getD a 0) = cntTo (wo xs a) (wo xs a).length
  blk : 1 ≤ blkA xs a ∧ blkA xs a ≤ 64
  at_ : ∀ k : Nat, (k : Int) < cntTo xs xs.length → (0 ≤ sumI xs a k ∧ sumI xs a k < cntTo (wo xs a) (wo xs a).length) ∧ sumI xs a k = sumS xs a k ∧ 0 ≤ (k : Int).tdiv (blkA xs a) * stpA xs a ∧ (k : Int).tdiv (blkA xs a) * stpA xs a ≤ 64
theorem sum_facts {xs : List Int} (hs : shapeOk xs = true) {a : Nat} (ha : a < xs.length) : SumFacts xs a := by
  have h := shape_all sumChk_2 sumChk_31 sumChk_32 sumChk_33 sumChk_34 hs
  unfold sumChk at h
  rw [List.all_eq_true] at h
  have h := h a (List.mem_range.2 ha)
  simp only [Bool.and_eq_true, decide_eq_true_eq, beq_iff_eq, List.all_eq_true] at h
  obtain ⟨⟨⟨⟨h1, h2⟩, h3⟩, h4⟩, h5⟩ := h
  have hc := cnt64 hs (Nat.le_refl _)
  refine ⟨h1, h2, ⟨h4, h3⟩, fun k hk => ?_⟩
  obtain ⟨⟨⟨⟨a1, a2⟩, a3⟩, a4⟩, a5⟩ := h5 k (List.mem_range.2 (by unfold cntM; omega))
  exact ⟨⟨a1, a2⟩, a3, a4, a5⟩
def smTo (xs zs : List Int) (a : Nat) : Nat → List Int
  | 0 => List.replicate (cntTo (wo xs a) (wo xs a).length).toNat 0
  | k + 1 => (smTo xs zs a k).set (sumI xs a k).toNat (IntKind.i64.wrap ((smTo xs zs a k).getD (sumI xs a k).toNat 0 + zs.getD k 0))
theorem smTo_length (xs zs : List Int) (a : Nat) : ∀ k, (smTo xs zs a k).length = (cntTo (wo xs a) (wo xs a).length).toNat
  | 0 => by simp [smTo]
  | k + 1 => by rw [smTo, List.length_set]; exact smTo_length xs zs a k
def told (xs zs : List Int) : TM := if tensorOk xs zs = true then (xs, zs, true) else noT
theorem told_t {xs zs : List Int} (h : tensorOk xs zs = true) : told xs zs = (xs, zs, true) := if_pos h
theorem told_f {xs zs : List Int} (h : tensorOk xs zs = false) : told xs zs = noT := if_neg (by rw [h]; exact Bool.false_ne_true)
def sumM (xs zs : List Int) (i : Int) : TM := if tensorOk xs zs = true ∧ 0 ≤ i ∧ i < xs.length then told (wo xs i.toNat) (smTo xs zs i.toNat zs.length) else noT
theorem sumM_t {xs zs : List Int} {a : Nat} (h : tensorOk xs zs = true) (ha : a < xs.length) : sumM xs zs a = told (wo xs a) (smTo xs zs a zs.length) := by
  unfold sumM; rw [if_pos ⟨h, by omega, by omega⟩, Int.toNat_natCast]
theorem sumM_f1 {xs zs : List Int} {i : Int} (h : tensorOk xs zs = false) : sumM xs zs i = noT := if_neg (by rw [h]; exact fun h => Bool.false_ne_true h.1)
theorem sumM_f2 {xs zs : List Int} {i : Int} (h : ¬ (0 ≤ i ∧ i < xs.length)) : sumM xs zs i = noT := if_neg (fun h' => h h'.2)
end Go.Proofs.YtjmdhfjemaoebaaGreat
