import Derived.Test.YtpbenelmklggcaaGreatM012x13
import Derived.Test.YtpbenelmklggcaaGreatM012x11
import Derived.Test.YtpbenelmklggcaaGreatM012x12
import Derived.Test.YtpbenelmklggcaaGreatM012x24
import Derived.Test.YtpbenelmklggcaaGreatM012x23
namespace Go.Proofs.YtpbenelmklggcaaGreat
set_option maxRecDepth 20000
open Go.RowKit Go.Am
attribute [local irreducible] aPlan aGet aIf aLoop aCall RetB NextB CallB CallG aCut aSet aAppend
def tot (xss : List (List Int)) : Nat := (xss.map List.length).sum
def ntot (ns : List Nd) : Nat := (ns.map fun n => n.l.length).sum
theorem sum_take_succ {α : Type} (f : α → Nat) (d : α) {l : List α} {k : Nat} (h : k < l.length) : ((l.take (k + 1)).map f).sum = ((l.take k).map f).sum + f (l.getD k d) := by
  rw [List.take_add_one, List.map_append, List.sum_append, getD_eq (d := d) h]
  simp
theorem sum_take_le {α : Type} (f : α → Nat) (l : List α) (k : Nat) : ((l.take k).map f).sum ≤ (l.map f).sum := by
  conv => rhs; rw [← List.take_append_drop k l]
  rw [List.map_append, List.sum_append]
  omega
theorem getD_le_sum {α : Type} (f : α → Nat) (d : α) {l : List α} {k : Nat} (h : k < l.length) : f (l.getD k d) ≤ (l.map f).sum := by
  have h1 := sum_take_succ f d h
  have h2 := sum_take_le f l (k + 1)
  omega
theorem tot_succ {xss : List (List Int)} {k : Nat} (h : k < xss.length) : tot (xss.take (k + 1)) = tot (xss.take k) + (xss.getD k []).length := sum_take_succ _ [] h
theorem ntot_succ {xss : List Nd} {k : Nat} (h : k < xss.length) : ntot (xss.take (k + 1)) = ntot (xss.take k) + (xss.getD k default).l.length := sum_take_succ (fun n : Nd => n.l.length) default h
theorem tot_all {xss : List (List Int)} {k : Nat} (h : k = xss.length) : tot (xss.take k) = tot xss := by rw [h, List.take_length]
theorem ntot_all {xss : List Nd} {k : Nat} (h : k = xss.length) : ntot (xss.take k) = ntot xss := by rw [h, List.take_length]
abbrev leftN (q : Nat) (m : Int) (r : AV) (news : List Row) : Prop := ∃ n : Int, r = .int .i64 n ∧ news = [] ∧ (n < 0 ∨ (0 ≤ n ∧ n = m - q))
set_option maxRecDepth 10000 in
theorem szIntSS_sound : Sound Tryz.prog 20 (fnP (ι := Nat × List (List Int) × Int) (fun | (c, xss, m) => [.sl c xss.length (xss.map (slI c)), .int .i64 m]) (fun | (_, _, m) => 0 ≤ m ∧ m ≤ 1048576) (fun | (_, xss, m) => leftN (xss.length + tot xss) m)) := by
  refine sound_of Tryz.func20 rfl (enters_of Tryz.func20 (by kernel_rfl) (by kernel_rfl)) ?_
  rintro ⟨c, xss, m⟩ hpre
  have hpre : 0 ≤ m ∧ m ≤ 1048576 := hpre
  have hmax : maxLen = 9223372036854775807 := rfl
  conv => whnf
  repeat' (first
    | ((first | refine fun (_ : _ ≤ maxLen) => ?_ | refine append_same ?_); conv => whnf) | (refine aIf_dec (fun _ => ?_) (fun _ => ?_) <;> conv => whnf))
  · exact retP1 (L := []) (by simp) rfl rfl ⟨_, rfl, rfl, .inl (by decide)⟩
  · rename_i h0
    rw [IntWalk.i64_in (m - xss.length) (by omega)] at h0
    refine loop_u (ι := Nat × Int) [true, true, false, false, false, true, false, false, false, false, false, false, false, false, false, false, false, false, false, false, false, false, false, false, false, false, false] (fun | (k, n) => [(1, .int .i64 n), (5, .int .i64 k)]) (fun _ => []) (fun | (k, n) => k ≤ xss.length ∧ 0 ≤ n ∧ n = m - xss.length - tot (xss.take k)) (fun x => xss.length - x.1) ((0, m - xss.length)) ⟨Nat.zero_le _, by omega, by simp [tot]⟩ ?_ ?_
    · conv => whnf
      repeat' (first
        | exact trivial | exact rfl
        | exact pureL_ii _ _ | refine And.intro ?_ ?_
        | exact Nat.le_of_ble_eq_true rfl | exact int_eq (by rw [IntWalk.i64_in _ (by omega)] <;> omega))
    · rintro ⟨k, n⟩ ⟨hk, hn, he⟩
      conv => whnf
      repeat' (first
        | ((first | refine fun (_ : _ ≤ maxLen) => ?_ | refine And.intro (by omega) ?_ | refine callG_t ?_ | refine szIntS_call (by omega) (fun _ _ => ?_) | refine append_same ?_ | refine get_ii_n (by omega) ?_ | refine And.intro (pureL_ints _ _) ?_); conv => whnf) | (refine aIf_dec (fun _ => ?_) (fun _ => ?_) <;> conv => whnf))
      · exact retP1 (L := []) (by simp) rfl rfl ⟨_, rfl, rfl, .inl (by decide)⟩
      · rename_i hlt _ n' h1 h2
        have := tot_succ (xss := xss) (k := k) (by omega)
        refine next_u ((k + 1, n')) (show xss.length - (k + 1) < xss.length - k by omega) ⟨(by omega : k + 1 ≤ xss.length), (by omega : 0 ≤ n'), (by omega : n' = m - xss.length - tot (xss.take (k + 1)))⟩ ?_
        conv => whnf
        repeat' (first
          | exact trivial | exact rfl
          | exact pureL_ii _ _ | refine And.intro ?_ ?_
          | exact Nat.le_of_ble_eq_true rfl | exact int_eq (by rw [IntWalk.i64_in _ (by omega)] <;> omega))
      · have := tot_all (xss := xss) (k := k) (by omega)
        exact retP1 (L := []) (by simp) rfl rfl ⟨_, rfl, rfl, .inr (by omega)⟩
theorem szIntSS_call {c : Nat} {xss : List (List Int)} {m : Int} {env : List AV} {rows : List Row} {ctr low : Nat} {k : AV → St → Prop} (hpre : 0 ≤ m ∧ m ≤ 1048576) (hk : ∀ q : Int, (q < 0 ∨ (0 ≤ q ∧ q = m - ((xss.length + tot xss : Nat) : Int))) → k (.int .i64 q) ⟨env, rows, ctr + 1, low⟩) :
    CallB Tryz.prog 20 ⟨env, rows, ctr, low⟩ [.sl c xss.length (xss.map (slI c)), .int .i64 m] k := callP_in szIntSS_sound (c, xss, m) hpre (by
  rintro r news ⟨n, rfl, rfl, h⟩
  simpa [AV.back, St.news] using hk n h)
set_option maxRecDepth 10000 in
theorem szNode_sound : Sound Tryz.prog 46 (fnP (ι := Nat × Nd × Int) (fun | (c, n, m) => [.agg [.int .i64 n.op, .int .i64 n.a, .int .i64 n.b, .sl c n.l.length (n.l.map (.int .i64))], .int .i64 m]) (fun | (_, _, m) => 0 ≤ m ∧ m ≤ 1048576) (fun | (_, n, m) => leftN n.l.length m)) := by
  refine sound_of Tryz.func46 rfl (enters_of Tryz.func46 (by kernel_rfl) (by kernel_rfl)) ?_
  rintro ⟨c, n, m⟩ hpre
  have hpre : 0 ≤ m ∧ m ≤ 1048576 := hpre
  conv => whnf
  repeat' (first
    | ((first | refine aGet_in rfl ?_ | refine And.intro rfl (And.intro (List.cons_ne_nil _ _) ?_) | refine callG_t ?_ | refine szIntS_call (by omega) (fun _ _ => ?_) | refine append_same ?_ | refine And.intro (pureL_ints _ _) ?_); conv => whnf) | (refine aIf_dec (fun _ => ?_) (fun _ => ?_) <;> conv => whnf))
  · exact retP1 (L := []) (by simp) rfl rfl ⟨_, rfl, rfl, .inl (by decide)⟩
  · exact retP1 (L := []) (by simp) rfl rfl ⟨_, rfl, rfl, .inr (by omega)⟩
theorem szNode_call {c : Nat} {n : Nd} {m : Int} {env : List AV} {rows : List Row} {ctr low : Nat} {k : AV → St → Prop} (hpre : 0 ≤ m ∧ m ≤ 1048576) (hk : ∀ q : Int, (q < 0 ∨ (0 ≤ q ∧ q = m - ((n.l.length : Nat) : Int))) → k (.int .i64 q) ⟨env, rows, ctr + 1, low⟩) :
    CallB Tryz.prog 46 ⟨env, rows, ctr, low⟩ [.agg [.int .i64 n.op, .int .i64 n.a, .int .i64 n.b, .sl c n.l.length (n.l.map (.int .i64))], .int .i64 m] k := callP_in szNode_sound (c, n, m) hpre (by
  rintro r news ⟨n, rfl, rfl, h⟩
  simpa [AV.back, St.news] using hk n h)
set_option maxRecDepth 10000 in
theorem szNodeS_sound : Sound Tryz.prog 21 (fnP (ι := Nat × List Nd × Int) (fun | (c, xss, m) => [.sl c xss.length (xss.flatMap (ndC c)), .int .i64 m]) (fun | (_, _, m) => 0 ≤ m ∧ m ≤ 1048576) (fun | (_, xss, m) => leftN (xss.length + ntot xss) m)) := by
  refine sound_of Tryz.func21 rfl (enters_of Tryz.func21 (by kernel_rfl) (by kernel_rfl)) ?_
  rintro ⟨c, xss, m⟩ hpre
  have hpre : 0 ≤ m ∧ m ≤ 1048576 := hpre
  have hmax : maxLen = 9223372036854775807 := rfl
  conv => whnf
  repeat' (first
    | ((first | refine fun (_ : _ ≤ maxLen) => ?_ | refine append_same ?_); conv => whnf) | (refine aIf_dec (fun _ => ?_) (fun _ => ?_) <;> conv => whnf))
  · exact retP1 (L := []) (by simp) rfl rfl ⟨_, rfl, rfl, .inl (by decide)⟩
  · rename_i h0
    rw [IntWalk.i64_in (m - xss.length) (by omega)] at h0
    refine loop_u (ι := Nat × Int) [true, true, false, false, false, true, false, false, false, false, false, false, false, false, false, false, false, false, false, false, false, false, false, false, false, false, false] (fun | (k, n) => [(1, .int .i64 n), (5, .int .i64 k)]) (fun _ => []) (fun | (k, n) => k ≤ xss.length ∧ 0 ≤ n ∧ n = m - xss.length - ntot (xss.take k)) (fun x => xss.length - x.1) ((0, m - xss.length)) ⟨Nat.zero_le _, by omega, by simp [ntot]⟩ ?_ ?_
    · conv => whnf
      repeat' (first
        | exact trivial | exact rfl
        | exact pureL_nd _ _ | refine And.intro ?_ ?_
        | exact Nat.le_of_ble_eq_true rfl | exact int_eq (by rw [IntWalk.i64_in _ (by omega)] <;> omega))
    · rintro ⟨k, n⟩ ⟨hk, hn, he⟩
      conv => whnf
      repeat' (first
        | ((first | refine fun (_ : _ ≤ maxLen) => ?_ | refine And.intro (by omega) ?_ | refine callG_t ?_ | refine append_same ?_ | refine part_nd_n (by omega) ?_ | refine szNode_call (by omega) (fun _ _ => ?_) | refine And.intro (pureL_ints _ _) ?_); conv => whnf) | (refine aIf_dec (fun _ => ?_) (fun _ => ?_) <;> conv => whnf))
      · exact retP1 (L := []) (by simp) rfl rfl ⟨_, rfl, rfl, .inl (by decide)⟩
      · rename_i hlt _ n' h1 h2
        have := ntot_succ (xss := xss) (k := k) (by omega)
        refine next_u ((k + 1, n')) (show xss.length - (k + 1) < xss.length - k by omega) ⟨(by omega : k + 1 ≤ xss.length), (by omega : 0 ≤ n'), (by omega : n' = m - xss.length - ntot (xss.take (k + 1)))⟩ ?_
        conv => whnf
        repeat' (first
          | exact trivial | exact rfl
          | exact pureL_nd _ _ | refine And.intro ?_ ?_
          | exact Nat.le_of_ble_eq_true rfl | exact int_eq (by rw [IntWalk.i64_in _ (by omega)] <;> omega))
      · have := ntot_all (xss := xss) (k := k) (by omega)
        exact retP1 (L := []) (by simp) rfl rfl ⟨_, rfl, rfl, .inr (by omega)⟩
theorem szNodeS_call {c : Nat} {xss : List Nd} {m : Int} {env : List AV} {rows : List Row} {ctr low : Nat} {k : AV → St → Prop} (hpre : 0 ≤ m ∧ m ≤ 1048576) (hk : ∀ q : Int, (q < 0 ∨ (0 ≤ q ∧ q = m - ((xss.length + ntot xss : Nat) : Int))) → k (.int .i64 q) ⟨env, rows, ctr + 1, low⟩) :
    CallB Tryz.prog 21 ⟨env, rows, ctr, low⟩ [.sl c xss.length (xss.flatMap (ndC c)), .int .i64 m] k := callP_in szNodeS_sound (c, xss, m) hpre (by
  rintro r news ⟨n, rfl, rfl, h⟩
  simpa [AV.back, St.news] using hk n h)
def eSize (xss : List (List Int)) (ns : List Nd) : Nat := xss.length + tot xss + (ns.length + ntot ns)
set_option maxRecDepth 10000 in
theorem szExpr_sound : Sound Tryz.prog 6 (fnP (ι := Nat × List (List Int) × List Nd × Int) (fun | (c, xss, ns, m) => [.agg [.sl c xss.length (xss.map (slI c)), .sl c ns.length (ns.flatMap (ndC c))], .int .i64 m]) (fun | (_, _, _, m) => 0 ≤ m ∧ m ≤ 1048576) (fun | (_, xss, ns, m) => leftN (eSize xss ns) m)) := by
  refine sound_of Tryz.func6 rfl (enters_of Tryz.func6 (by kernel_rfl) (by kernel_rfl)) ?_
  rintro ⟨c, xss, ns, m⟩ hpre
  have hpre : 0 ≤ m ∧ m ≤ 1048576 := hpre
  conv => whnf
  repeat' (first
    | ((first | refine aGet_in rfl ?_ | refine And.intro rfl (And.intro (List.cons_ne_nil _ _) ?_) | refine callG_t ?_ | refine append_same ?_ | refine And.intro (pureL_ii _ _) ?_ | refine And.intro (pureL_nd _ _) ?_ | refine szIntSS_call (by omega) (fun _ _ => ?_) | refine szNodeS_call (by omega) (fun _ _ => ?_)); conv => whnf) | (refine aIf_dec (fun _ => ?_) (fun _ => ?_) <;> conv => whnf))
  · exact retP1 (L := []) (by simp) rfl rfl ⟨_, rfl, rfl, .inl (by decide)⟩
  · exact retP1 (L := []) (by simp) rfl rfl ⟨_, rfl, rfl, .inl (by decide)⟩
  · exact retP1 (L := []) (by simp) rfl rfl ⟨_, rfl, rfl, .inr (by unfold eSize; omega)⟩
theorem szExpr_call {c : Nat} {xss : List (List Int)} {ns : List Nd} {m : Int} {env : List AV} {rows : List Row} {ctr low : Nat} {k : AV → St → Prop} (hpre : 0 ≤ m ∧ m ≤ 1048576) (hk : ∀ q : Int, (q < 0 ∨ (0 ≤ q ∧ q = m - ((eSize xss ns : Nat) : Int))) → k (.int .i64 q) ⟨env, rows, ctr + 1, low⟩) :
    CallB Tryz.prog 6 ⟨env, rows, ctr, low⟩ [.agg [.sl c xss.length (xss.map (slI c)), .sl c ns.length (ns.flatMap (ndC c))], .int .i64 m] k := callP_in szExpr_sound (c, xss, ns, m) hpre (by
  rintro r news ⟨n, rfl, rfl, h⟩
  simpa [AV.back, St.news] using hk n h)
theorem getD_extG {α : Type} {d : α} {xs ys : List α} (hl : xs.length = ys.length) (h : ∀ j, j < ys.length → xs.getD j d = ys.getD j d) : xs = ys := by
  refine List.ext_getElem hl fun j h1 h2 => ?_
  have := h j h2
  simpa [List.getD, List.getElem?_eq_getElem h1, List.getElem?_eq_getElem h2] using this
set_option maxRecDepth 10000 in
theorem eqIntSS_sound : Sound Tryz.prog 15 (fnS (ι := Nat × List (List Int) × Nat × List (List Int)) (fun | (c, xss, d, yss) => [.sl c xss.length (xss.map (slI c)), .sl d yss.length (yss.map (slI d))]) (fun _ => True) (fun | (_, xss, _, yss) => .bool (decide (xss = yss)))) := by
  refine sound_of Tryz.func15 rfl (enters_of Tryz.func15 (by kernel_rfl) (by kernel_rfl)) ?_
  rintro ⟨c, xss, d, yss⟩ -
  have hmax : maxLen = 9223372036854775807 := rfl
  conv => whnf
  repeat' (first
    | ((first | refine plan_in (id := 6) [0, 1, 2, 3, 4, 5, 6, 7, 8, 9] (by kernel_rfl) (by kernel_rfl) ?_ | refine fun (_ : _ ≤ maxLen) => ?_ | refine append_same ?_); conv => whnf) | refine aIf_not ?_
    | (refine aIf_dec (fun _ => ?_) (fun _ => ?_) <;> conv => whnf))
  · have hl : yss.length = xss.length := by omega
    refine loop_u (ι := Nat) [true, true, false, false, false, true, false, false, false, false, false, false, false, false, false, false, false, false, false, false, false, false, false, false, false, false, false] (fun k => [(5, .int .i64 k)]) (fun _ => []) (fun k => k ≤ xss.length ∧ ∀ j, j < k → xss.getD j [] = yss.getD j []) (fun k => xss.length - k) (0) ⟨Nat.zero_le _, fun j hj => absurd hj (Nat.not_lt_zero _)⟩ ?_ ?_
    · conv => whnf
      repeat' (first
        | exact trivial | exact rfl
        | exact pureL_ii _ _ | refine And.intro ?_ ?_
        | exact Nat.le_of_ble_eq_true rfl)
    · rintro k ⟨hk, hall⟩
      conv => whnf
      repeat' (first
        | ((first | refine plan_in (id := 6) [0, 1, 2, 3, 4, 5, 6, 7, 8, 9] (by kernel_rfl) (by kernel_rfl) ?_ | refine fun (_ : _ ≤ maxLen) => ?_ | refine And.intro (by omega) ?_ | refine append_same ?_ | refine get_ii_n (by omega) ?_ | refine And.intro (pureL_ints _ _) ?_ | refine eqIntS_call ?_); conv => whnf) | refine aIf_not ?_
        | (refine aIf_dec (fun _ => ?_) (fun _ => ?_) <;> conv => whnf))
      · refine next_u (k + 1) (by omega) ⟨by omega, fun j hj => ?_⟩ ?_
        · rcases Nat.lt_succ_iff_lt_or_eq.1 hj with h1 | rfl
          · exact hall j h1
          · assumption
        · conv => whnf
          repeat' (first
            | exact trivial | exact rfl
            | exact pureL_ii _ _ | refine And.intro ?_ ?_
            | exact Nat.le_of_ble_eq_true rfl | exact int_eq (by rw [IntWalk.i64_in _ (by omega)] <;> omega))
      · refine retS rfl (congrArg AV.bool ?_)
        symm; rw [decide_eq_false_iff_not]; rintro rfl; contradiction
      · refine retS rfl (congrArg AV.bool ?_)
        symm; rw [decide_eq_true_iff]
        exact getD_extG (d := []) (by omega) fun j hj => hall j (by omega)
  · refine retS rfl (congrArg AV.bool ?_)
    symm; rw [decide_eq_false_iff_not]; rintro rfl; omega
theorem eqIntSS_call {c d : Nat} {xss yss : List (List Int)} {env : List AV} {rows : List Row} {ctr low : Nat} {k : AV → St → Prop} (hpre : True) (h : k (.bool (decide (xss = yss))) ⟨env, rows, ctr + 1, low⟩) :
    CallB Tryz.prog 15 ⟨env, rows, ctr, low⟩ [.sl c xss.length (xss.map (slI c)), .sl d yss.length (yss.map (slI d))] k := callS_in eqIntSS_sound (c, xss, d, yss) hpre rfl h
set_option maxRecDepth 10000 in
theorem eqNode_sound : Sound Tryz.prog 71 (fnS (ι := Nat × Nd × Nat × Nd) (fun | (c, n, d, m) => [.agg [.int .i64 n.op, .int .i64 n.a, .int .i64 n.b, .sl c n.l.length (n.l.map (.int .i64))], .agg [.int .i64 m.op, .int .i64 m.a, .int .i64 m.b, .sl d m.l.length (m.l.map (.int .i64))]]) (fun _ => True) (fun | (_, n, _, m) => .bool (decide (n = m)))) := by
  refine sound_of Tryz.func71 rfl (enters_of Tryz.func71 (by kernel_rfl) (by kernel_rfl)) ?_
  rintro ⟨c, n, d, m⟩ -
  conv => whnf
  repeat' (first
    | ((first | refine aGet_in rfl ?_ | refine And.intro rfl (And.intro (List.cons_ne_nil _ _) ?_) | refine callG_t ?_ | refine append_same ?_ | refine And.intro (pureL_ints _ _) ?_ | refine eqIntS_call ?_); conv => whnf) | refine aIf_not ?_
    | (refine aIf_dec (fun _ => ?_) (fun _ => ?_) <;> conv => whnf))
  all_goals refine retS rfl (congrArg AV.bool ?_)
  all_goals (cases n; cases m; simp_all)
theorem eqNode_call {c d : Nat} {n m : Nd} {env : List AV} {rows : List Row} {ctr low : Nat} {k : AV → St → Prop} (hpre : True) (h : k (.bool (decide (n = m))) ⟨env, rows, ctr + 1, low⟩) :
    CallB Tryz.prog 71 ⟨env, rows, ctr, low⟩ [.agg [.int .i64 n.op, .int .i64 n.a, .int .i64 n.b, .sl c n.l.length (n.l.map (.int .i64))], .agg [.int .i64 m.op, .int .i64 m.a, .int .i64 m.b, .sl d m.l.length (m.l.map (.int .i64))]] k := callS_in eqNode_sound (c, n, d, m) hpre rfl h
set_option maxRecDepth 10000 in
theorem eqNodeS_sound : Sound Tryz.prog 34 (fnS (ι := Nat × List Nd × Nat × List Nd) (fun | (c, xss, d, yss) => [.sl c xss.length (xss.flatMap (ndC c)), .sl d yss.length (yss.flatMap (ndC d))]) (fun _ => True) (fun | (_, xss, _, yss) => .bool (decide (xss = yss)))) := by
  refine sound_of Tryz.func34 rfl (enters_of Tryz.func34 (by kernel_rfl) (by kernel_rfl)) ?_
  rintro ⟨c, xss, d, yss⟩ -
  have hmax : maxLen = 9223372036854775807 := rfl
  conv => whnf
  repeat' (first
    | ((first | refine plan_in (id := 6) [0, 1, 2, 3, 4, 5, 6, 7, 8, 9] (by kernel_rfl) (by kernel_rfl) ?_ | refine fun (_ : _ ≤ maxLen) => ?_ | refine append_same ?_); conv => whnf) | refine aIf_not ?_
    | (refine aIf_dec (fun _ => ?_) (fun _ => ?_) <;> conv => whnf))
  · have hl : yss.length = xss.length := by omega
    refine loop_u (ι := Nat) [true, true, false, false, false, true, false, false, false, false, false, false, false, false, false, false, false, false, false, false, false, false, false, false, false, false, false] (fun k => [(5, .int .i64 k)]) (fun _ => []) (fun k => k ≤ xss.length ∧ ∀ j, j < k → xss.getD j default = yss.getD j default) (fun k => xss.length - k) (0) ⟨Nat.zero_le _, fun j hj => absurd hj (Nat.not_lt_zero _)⟩ ?_ ?_
    · conv => whnf
      repeat' (first
        | exact trivial | exact rfl
        | exact pureL_nd _ _ | refine And.intro ?_ ?_
        | exact Nat.le_of_ble_eq_true rfl)
    · rintro k ⟨hk, hall⟩
      conv => whnf
      repeat' (first
        | ((first | refine plan_in (id := 6) [0, 1, 2, 3, 4, 5, 6, 7, 8, 9] (by kernel_rfl) (by kernel_rfl) ?_ | refine fun (_ : _ ≤ maxLen) => ?_ | refine And.intro (by omega) ?_ | refine append_same ?_ | refine part_nd_n (by omega) ?_ | refine eqNode_call trivial ?_ | refine And.intro (pureL_ints _ _) ?_); conv => whnf) | refine aIf_not ?_
        | (refine aIf_dec (fun _ => ?_) (fun _ => ?_) <;> conv => whnf))
      · refine next_u (k + 1) (by omega) ⟨by omega, fun j hj => ?_⟩ ?_
        · rcases Nat.lt_succ_iff_lt_or_eq.1 hj with h1 | rfl
          · exact hall j h1
          · assumption
        · conv => whnf
          repeat' (first
            | exact trivial | exact rfl
            | exact pureL_nd _ _ | refine And.intro ?_ ?_
            | exact Nat.le_of_ble_eq_true rfl | exact int_eq (by rw [IntWalk.i64_in _ (by omega)] <;> omega))
      · refine retS rfl (congrArg AV.bool ?_)
        symm; rw [decide_eq_false_iff_not]; rintro rfl; contradiction
      · refine retS rfl (congrArg AV.bool ?_)
        symm; rw [decide_eq_true_iff]
        exact getD_extG (d := default) (by omega) fun j hj => hall j (by omega)
  · refine retS rfl (congrArg AV.bool ?_)
    symm; rw [decide_eq_false_iff_not]; rintro rfl; omega
theorem eqNodeS_call {c d : Nat} {xss yss : List Nd} {env : List AV} {rows : List Row} {ctr low : Nat} {k : AV → St → Prop} (hpre : True) (h : k (.bool (decide (xss = yss))) ⟨env, rows, ctr + 1, low⟩) :
    CallB Tryz.prog 34 ⟨env, rows, ctr, low⟩ [.sl c xss.length (xss.flatMap (ndC c)), .sl d yss.length (yss.flatMap (ndC d))] k := callS_in eqNodeS_sound (c, xss, d, yss) hpre rfl h
set_option maxRecDepth 10000 in
theorem eqExpr_sound : Sound Tryz.prog 10 (fnS (ι := (Nat × List (List Int) × List Nd) × (Nat × List (List Int) × List Nd)) (fun | ((c, xss, ns), (d, yss, ms)) => [.agg [.sl c xss.length (xss.map (slI c)), .sl c ns.length (ns.flatMap (ndC c))], .agg [.sl d yss.length (yss.map (slI d)), .sl d ms.length (ms.flatMap (ndC d))]]) (fun _ => True) (fun | ((_, xss, ns), (_, yss, ms)) => .bool (decide ((xss, ns) = (yss, ms))))) := by
  refine sound_of Tryz.func10 rfl (enters_of Tryz.func10 (by kernel_rfl) (by kernel_rfl)) ?_
  rintro ⟨⟨c, xss, ns⟩, ⟨d, yss, ms⟩⟩ -
  conv => whnf
  repeat' (first
    | ((first | refine aGet_in rfl ?_ | refine And.intro rfl (And.intro (List.cons_ne_nil _ _) ?_) | refine callG_t ?_ | refine append_same ?_ | refine And.intro (pureL_ii _ _) ?_ | refine And.intro (pureL_nd _ _) ?_ | refine eqIntSS_call trivial ?_ | refine eqNodeS_call trivial ?_); conv => whnf) | refine aIf_not ?_
    | (refine aIf_dec (fun _ => ?_) (fun _ => ?_) <;> conv => whnf))
  all_goals refine retS rfl (congrArg AV.bool ?_)
  all_goals simp_all
theorem eqExpr_call {c d : Nat} {xss yss : List (List Int)} {ns ms : List Nd} {env : List AV} {rows : List Row} {ctr low : Nat} {k : AV → St → Prop} (hpre : True) (h : k (.bool (decide ((xss, ns) = (yss, ms)))) ⟨env, rows, ctr + 1, low⟩) :
    CallB Tryz.prog 10 ⟨env, rows, ctr, low⟩ [.agg [.sl c xss.length (xss.map (slI c)), .sl c ns.length (ns.flatMap (ndC c))], .agg [.sl d yss.length (yss.map (slI d)), .sl d ms.length (ms.flatMap (ndC d))]] k := callS_in eqExpr_sound ((c, xss, ns), (d, yss, ms)) hpre rfl h
end Go.Proofs.YtpbenelmklggcaaGreat
namespace Go.Proofs.YtpbenelmklggcaaGreat
set_option maxRecDepth 20000
open Go.RowKit Go.Am
attribute [local irreducible] aPlan aGet aIf aLoop aCall RetB NextB CallB CallG aCut aSet aAppend
theorem le_fillF_len {α : Type} {f : α → List AV} {z : Nat} (hz : ∀ x, (f x).length = z) {l : List α} {k : Nat} {us : List AV} (hu : us.length = z) (h : k < l.length) : 0 + (k : Int).toNat * z + z ≤ (fillF f l k us).length := by
  rw [fillF_length hz hu (Nat.le_of_lt h), Nat.zero_add, Int.toNat_natCast, ← Nat.succ_mul]; exact Nat.mul_le_mul_right z h
theorem len_le_tot {xss : List (List Int)} {k : Nat} (h : k < xss.length) : (xss.getD k []).length ≤ tot xss := getD_le_sum _ [] h
theorem len_le_ntot {xss : List Nd} {k : Nat} (h : k < xss.length) : (xss.getD k default).l.length ≤ ntot xss := getD_le_sum (fun n : Nd => n.l.length) default h
set_option maxHeartbeats 4000000 in
theorem toIntSS_sound : Sound Tryz.prog 27 (fnR (ι := Nat × List (List Int)) 46 1 (fun | (c, xss) => [.sl c xss.length (xss.map (slI c))]) (fun | (_, xss) => xss.length ≤ 1048576 ∧ tot xss ≤ 1048576) (fun | (_, xss) => xss.length) (fun | (_, xss) => xss.map (ownI 3))) := by
  refine sound_of Tryz.func27 rfl (enters_of Tryz.func27 (by kernel_rfl) (by kernel_rfl)) ?_
  rintro ⟨c, xss⟩ hpre
  have hpre : xss.length ≤ 1048576 ∧ tot xss ≤ 1048576 := hpre
  conv => whnf
  repeat' (first
    | ((first | refine fun (_ : _ ≤ maxLen) => ?_ | refine append_same ?_ | refine And.intro (And.intro (Int.le_refl _) (And.intro (by kernel_rfl) (And.intro rfl (by kernel_rfl)))) (And.intro (And.intro (by omega) (And.intro (bytes_le (b := 24) rfl (by omega)) (by omega))) ?_)); conv => whnf))
  refine loop_ut (ι := Nat) [true, false, false, true, true, false, false, false, false, false, false, false, false, false, false, false, false, false, false, false, false, false, false] (fun k => [(4, .int .i64 k)]) (fun k => [(1, fillC (ownI 3) xss k .nil)]) (fun k => k ≤ xss.length) (fun k => xss.length - k) (0) (Nat.zero_le _) ?_ ?_
  · conv => whnf
    refine St.le.to ?_
    conv => whnf
    repeat' (first | exact le_fillC (ownI_pure _) rfl | refine And.intro ?_ ?_)
    repeat' (first
      | exact trivial | exact rfl
      | exact Or.inl (And.intro rfl rfl) | exact pureL_ii _ _
      | exact Nat.le_of_ble_eq_true rfl)
  · rintro k hk
    have hk : k ≤ xss.length := hk
    have hl : k < xss.length → (xss.getD k []).length ≤ 1048576 := fun h => by have := len_le_tot h; omega
    conv => whnf
    repeat' (first
      | ((first | refine fun (_ : _ ≤ maxLen) => ?_ | refine And.intro (by omega) ?_ | refine callG_t ?_ | refine append_same ?_ | refine get_ii_n (by omega) ?_ | refine And.intro rfl (And.intro rfl (And.intro (by rw [fillC_length (by omega)]; omega) ?_)) | refine set_fillC (by omega) (by omega) ?_ | refine And.intro (pureL_ints _ _) ?_ | refine toIntS_call (by omega) ?_); conv => whnf) | (refine aIf_dec (fun _ => ?_) (fun _ => ?_) <;> conv => whnf))
    · rename_i hlt
      have hk' : k < xss.length := by omega
      refine next_ut (k + 1) (by omega) (by show k + 1 ≤ _; omega) ?_
      conv => whnf
      refine to_close 1 k 2 3 _ 1 3 _ _ rfl (get_fillC hk') rfl (by decide) (Nat.zero_le _) (by decide) (by simp) ?_
      refine St.le.to ?_
      conv => whnf
      repeat' (first | exact le_closeC [] hk' rfl (ownI_pure _) rfl | refine And.intro ?_ ?_)
      repeat' (first
        | exact trivial | exact rfl
        | exact Or.inl (And.intro rfl rfl) | exact pureL_ii _ _
        | exact Nat.le_of_ble_eq_true rfl | exact int_eq (by rw [IntWalk.i64_in _ (by omega)] <;> omega))
    · have e := fillC_all (f := ownI 3) (l := xss) (k := k) (u := .nil) (by omega)
      rw [e]
      refine retR rfl (protL_oi _ _) ?_ rfl
      simp
theorem toIntSS_call {c : Nat} {xss : List (List Int)} {env : List AV} {rows : List Row} {ctr low : Nat} {k : AV → St → Prop} (hpre : xss.length ≤ 1048576 ∧ tot xss ≤ 1048576) (h : k (.ref rows.length ctr 0 xss.length) ⟨env, rows ++ [⟨ctr, 46, 1, xss.map (ownI 3)⟩], ctr + 1, low⟩) :
    CallB Tryz.prog 27 ⟨env, rows, ctr, low⟩ [.sl c xss.length (xss.map (slI c))] k := callR_in toIntSS_sound (c, xss) hpre (protL_oi _ _) h
theorem toNode_sound : Sound Tryz.prog 56 (fnN (ι := Nat × Nd) 3 (fun | (c, n) => [.agg [.int .i64 n.op, .int .i64 n.a, .int .i64 n.b, .sl c n.l.length (n.l.map (.int .i64))]]) (fun | (_, n) => n.l.length ≤ 1048576) (fun | (_, n) => n)) := by
  refine sound_of Tryz.func56 rfl (enters_of Tryz.func56 (by kernel_rfl) (by kernel_rfl)) ?_
  rintro ⟨c, n⟩ hpre
  have hpre : n.l.length ≤ 1048576 := hpre
  conv => whnf
  repeat' (first
    | ((first | refine aGet_in rfl ?_ | refine load_same ?_ | refine And.intro rfl (And.intro (List.cons_ne_nil _ _) ?_) | refine And.intro (Nat.le_of_ble_eq_true rfl) ?_ | refine callG_t ?_ | refine append_same ?_ | refine takeN_in ?_ | refine And.intro (pureL_ints _ _) ?_ | refine toIntS_call (by omega) ?_ | refine set_force ?_ | refine And.intro (by kernel_rfl) ?_); conv => whnf))
  exact retN rfl rfl rfl
theorem toNode_call {c : Nat} {n : Nd} {env : List AV} {rows : List Row} {ctr low : Nat} {k : AV → St → Prop} (hpre : n.l.length ≤ 1048576) (h : k (.agg [.int .i64 n.op, .int .i64 n.a, .int .i64 n.b, .ref rows.length ctr 0 n.l.length]) ⟨env, rows ++ [⟨ctr, 3, 1, n.l.map (.int .i64)⟩], ctr + 1, low⟩) :
    CallB Tryz.prog 56 ⟨env, rows, ctr, low⟩ [.agg [.int .i64 n.op, .int .i64 n.a, .int .i64 n.b, .sl c n.l.length (n.l.map (.int .i64))]] k := callN_in toNode_sound (c, n) hpre h
set_option maxHeartbeats 4000000 in
theorem toNodeS_sound : Sound Tryz.prog 28 (fnR (ι := Nat × List Nd) 48 4 (fun | (c, xss) => [.sl c xss.length (xss.flatMap (ndC c))]) (fun | (_, xss) => xss.length ≤ 1048576 ∧ ntot xss ≤ 1048576) (fun | (_, xss) => xss.length) (fun | (_, xss) => xss.flatMap (ndO 3))) := by
  refine sound_of Tryz.func28 rfl (enters_of Tryz.func28 (by kernel_rfl) (by kernel_rfl)) ?_
  rintro ⟨c, xss⟩ hpre
  have hpre : xss.length ≤ 1048576 ∧ ntot xss ≤ 1048576 := hpre
  conv => whnf
  repeat' (first
    | ((first | refine fun (_ : _ ≤ maxLen) => ?_ | refine append_same ?_ | refine And.intro (And.intro (Int.le_refl _) (And.intro (by kernel_rfl) (And.intro rfl (by kernel_rfl)))) (And.intro (And.intro (by omega) (And.intro (bytes_le (b := 48) rfl (by omega)) (by omega))) ?_)); conv => whnf))
  refine loop_ut (ι := Nat) [true, false, false, true, true, false, false, false, false, false, false, false, false, false, false, false, false, false, false, false, false, false, false] (fun k => [(4, .int .i64 k)]) (fun k => [(1, fillF (ndO 3) xss k [.int .i64 0, .int .i64 0, .int .i64 0, .nil])]) (fun k => k ≤ xss.length) (fun k => xss.length - k) (0) (Nat.zero_le _) ?_ ?_
  · conv => whnf
    refine St.le.to ?_
    conv => whnf
    repeat' (first | exact le_fillF (ndO_pure _) rfl | refine And.intro ?_ ?_)
    repeat' (first
      | exact trivial | exact rfl
      | exact Or.inl (And.intro rfl rfl) | exact pureL_nd _ _
      | exact Nat.le_of_ble_eq_true rfl)
  · rintro k hk
    have hk : k ≤ xss.length := hk
    have hl : k < xss.length → (xss.getD k default).l.length ≤ 1048576 := fun h => by have := len_le_ntot h; omega
    conv => whnf
    repeat' (first
      | ((first | refine fun (_ : _ ≤ maxLen) => ?_ | refine And.intro (by omega) ?_ | refine callG_t ?_ | refine append_same ?_ | refine part_nd_n (by omega) ?_ | refine And.intro (le_fillF_len (ndO_length _) rfl (by omega)) ?_ | refine set_fillF (ndO_length _) (by omega) rfl ?_ | refine toNode_call (by omega) ?_ | refine And.intro (pureL_ints _ _) ?_ | refine And.intro (by kernel_rfl) ?_); conv => whnf) | (refine aIf_dec (fun _ => ?_) (fun _ => ?_) <;> conv => whnf))
    · rename_i hlt
      have hk' : k < xss.length := by omega
      refine next_ut (k + 1) (by omega) (by show k + 1 ≤ _; omega) ?_
      conv => whnf
      refine to_close 1 (k * 4 + 3) 2 3 _ 1 3 _ _ rfl (get_fillF (ndO_length _) hk' rfl) rfl (by decide) (Nat.zero_le _) (by decide) (by simp) ?_
      refine St.le.to ?_
      conv => whnf
      repeat' (first | exact le_closeF (ndO_length _) default hk' (by simp) rfl (ndO_pure _) rfl | refine And.intro ?_ ?_)
      repeat' (first
        | exact trivial | exact rfl
        | exact Or.inl (And.intro rfl rfl) | exact pureL_nd _ _
        | exact Nat.le_of_ble_eq_true rfl | exact int_eq (by rw [IntWalk.i64_in _ (by omega)] <;> omega))
    · have e := fillF_all (f := ndO 3) (l := xss) (k := k) (us := [.int .i64 0, .int .i64 0, .int .i64 0, .nil]) (by omega)
      rw [e]
      refine retR rfl (protL_ond _ _) ?_ rfl
      simp
theorem toNodeS_call {c : Nat} {xss : List Nd} {env : List AV} {rows : List Row} {ctr low : Nat} {k : AV → St → Prop} (hpre : xss.length ≤ 1048576 ∧ ntot xss ≤ 1048576) (h : k (.ref rows.length ctr 0 xss.length) ⟨env, rows ++ [⟨ctr, 48, 4, xss.flatMap (ndO 3)⟩], ctr + 1, low⟩) :
    CallB Tryz.prog 28 ⟨env, rows, ctr, low⟩ [.sl c xss.length (xss.flatMap (ndC c))] k := callR_in toNodeS_sound (c, xss) hpre (protL_ond _ _) h
theorem toExpr_sound : Sound Tryz.prog 8 (fnR2 (ι := Nat × List (List Int) × List Nd) 46 1 48 4 (fun | (c, xss, ns) => [.agg [.sl c xss.length (xss.map (slI c)), .sl c ns.length (ns.flatMap (ndC c))]]) (fun | (_, xss, ns) => eSize xss ns ≤ 1048576) (fun | (_, xss, _) => xss.length) (fun | (_, _, ns) => ns.length) (fun | (_, xss, _) => xss.map (ownI 3)) (fun | (_, _, ns) => ns.flatMap (ndO 3))) := by
  refine sound_of Tryz.func8 rfl (enters_of Tryz.func8 (by kernel_rfl) (by kernel_rfl)) ?_
  rintro ⟨c, xss, ns⟩ hpre
  have hpre : xss.length + tot xss + (ns.length + ntot ns) ≤ 1048576 := hpre
  conv => whnf
  repeat' (first
    | ((first | refine aGet_in rfl ?_ | refine load_same ?_ | refine And.intro rfl (And.intro (List.cons_ne_nil _ _) ?_) | refine And.intro (Nat.le_of_ble_eq_true rfl) ?_ | refine callG_t ?_ | refine append_same ?_ | refine And.intro (pureL_ii _ _) ?_ | refine And.intro (pureL_nd _ _) ?_); conv => whnf) | (refine toIntSS_call (by constructor <;> omega) ?_; conv => whnf) | (refine toNodeS_call (by constructor <;> omega) ?_; conv => whnf) | ((first | refine takeN_in ?_ | refine set_force ?_ | refine And.intro (by kernel_rfl) ?_); conv => whnf))
  exact retR2 (by decide) rfl rfl (protL_oi _ _) (protL_ond _ _) rfl rfl rfl rfl
theorem toExpr_call {c : Nat} {xss : List (List Int)} {ns : List Nd} {env : List AV} {rows : List Row} {ctr low : Nat} {k : AV → St → Prop} (hpre : eSize xss ns ≤ 1048576) (h : k (.agg [.ref rows.length ctr 0 xss.length, .ref (rows.length + 1) ctr 0 ns.length]) ⟨env, rows ++ [⟨ctr, 46, 1, xss.map (ownI 3)⟩, ⟨ctr, 48, 4, ns.flatMap (ndO 3)⟩], ctr + 1, low⟩) :
    CallB Tryz.prog 8 ⟨env, rows, ctr, low⟩ [.agg [.sl c xss.length (xss.map (slI c)), .sl c ns.length (ns.flatMap (ndC c))]] k := callR2_in toExpr_sound (c, xss, ns) hpre (protL_oi _ _) (protL_ond _ _) h
end Go.Proofs.YtpbenelmklggcaaGreat
namespace Go.Proofs.YtpbenelmklggcaaGreat
set_option maxRecDepth 20000
open Go.RowKit Go.Am Go.WideShapes Go.ChangeShapes
theorem uNds : Tryz.prog.underlying 23 = some (.slice 66) := by kernel_rfl
theorem cell_nds1 : Tryz.prog.cellsOf 23 = 1 := by kernel_rfl
theorem cell_nd4 : Tryz.prog.cellsOf 66 = 4 := by kernel_rfl
theorem cell_ex2 : Tryz.prog.cellsOf 25 = 2 := by kernel_rfl
theorem nodeFs : fieldsAre Tryz.prog 66 [(3, 0), (3, 1), (3, 2), (46, 3)] = true := by kernel_rfl
theorem exprFs : fieldsAre Tryz.prog 25 [(22, 0), (23, 1)] = true := by kernel_rfl
theorem structEx : ∃ fs, Tryz.prog.underlying 25 = some (.struct fs) := by
  have h := exprFs
  unfold fieldsAre at h
  split at h
  · exact ⟨_, by assumption⟩
  · cases h
theorem getD_wf {zs : List Int} (h : ∀ z ∈ zs, (Lit.int .i64 z).wf = true) : wfL zs := fun j => by
  by_cases hj : j < zs.length
  · simp only [List.getD, List.getElem?_eq_getElem hj, Option.getD_some]; exact h _ (List.getElem_mem hj)
  · simp only [List.getD, List.getElem?_eq_none (show zs.length ≤ j by omega)]; rfl
theorem cells_nd (us : List AV) (h : CellsOk Tryz.prog 66 us) : ∃ n : Nd, us = ndC 1 n ∧ wfL n.l := by
  obtain ⟨hl, hf⟩ := fields_ok nodeFs h
  rw [cell_nd4] at hl
  match us, hl with
  | [a, b, c, d], _ =>
    have h0 := hf (3, 0) (by simp)
    have h1 := hf (3, 1) (by simp)
    have h2 := hf (3, 2) (by simp)
    have h3 := hf (46, 3) (by simp)
    simp only [cell_int1, cell_ints1] at h0 h1 h2 h3
    obtain ⟨n0, e0, -⟩ := cells_int uInt h0
    obtain ⟨n1, e1, -⟩ := cells_int uInt h1
    obtain ⟨n2, e2, -⟩ := cells_int uInt h2
    obtain ⟨zs, e3, hw⟩ := cellsInts uInts uInt h3
    simp at e0 e1 e2 e3
    exact ⟨⟨n0, n1, n2, zs⟩, by rw [e0, e1, e2, e3]; rfl, getD_wf hw⟩
theorem argE {av : AV} (h : ArgR Tryz.prog 25 av) : ∃ (xss : List (List Int)) (ns : List Nd), av = .agg [.sl 1 xss.length (xss.map (slI 1)), .sl 1 ns.length (ns.flatMap (ndC 1))] ∧ ∀ n ∈ ns, wfL n.l := by
  obtain ⟨fs, hu⟩ := structEx
  unfold ArgR at h
  rw [hu] at h
  obtain ⟨us, rfl, h⟩ := h
  obtain ⟨hl, hf⟩ := fields_ok exprFs h
  rw [cell_ex2] at hl
  match us, hl with
  | [a, b], _ =>
    have h0 := hf (22, 0) (by simp)
    have h1 := hf (23, 1) (by simp)
    simp only [cell_iis1, cell_nds1] at h0 h1
    obtain ⟨xss, e0, -⟩ := cells_slice (f := fun xs => [slI 1 xs]) (q := fun _ => True) uIIs h0 fun us hus => by
      obtain ⟨zs, e, -⟩ := cellsInts uInts uInt hus
      exact ⟨zs, e, trivial⟩
    obtain ⟨ns, e1, hw⟩ := cells_slice uNds h1 cells_nd
    have em := flat_one (slI 1) xss
    simp at e0 e1
    exact ⟨xss, ns, by rw [e0, e1, em], hw⟩
theorem eP_of {xss : List (List Int)} {ns : List Nd} (hs : eSize xss ns ≤ 1048576) (hw : ∀ n ∈ ns, wfL n.l) : eP ns := fun j hj => by
  have h1 := len_le_ntot hj
  unfold eSize at hs
  refine ⟨by omega, ?_⟩
  have : ns.getD j default ∈ ns := by simp only [List.getD, List.getElem?_eq_getElem hj, Option.getD_some]; exact List.getElem_mem hj
  exact hw _ this
end Go.Proofs.YtpbenelmklggcaaGreat
namespace Go.Proofs.YtpbenelmklggcaaGreat
set_option maxRecDepth 20000
open Go.RowKit Go.Am
set_option linter.unusedSimpArgs false
theorem shTo_form {ins : List (List Int)} {ns : List Nd} {j : Nat} (hf : ¬ formP (ns.getD j default) j ins.length) : shTo ins ns (j + 1) = none := by
  rw [shTo]
  cases shTo ins ns j with
  | none => rfl
  | some s => exact if_neg fun h => hf h.1
theorem shM_form {ins : List (List Int)} {ns : List Nd} (h : (shM ins ns).2 = true) : (1 ≤ ns.length ∧ ns.length ≤ 12) ∧ ∀ j, j < ns.length → formP (ns.getD j default) j ins.length := by
  by_cases hI : insOk ins ∧ 1 ≤ ns.length ∧ ns.length ≤ 12
  · refine ⟨hI.2, fun j hj => ?_⟩
    by_cases hf : formP (ns.getD j default) j ins.length
    · exact hf
    · rw [shM_n (shTo_none (shTo_form hf) _ (by omega))] at h; cases h
  · rw [shM_f hI] at h; cases h
def incAt (us : List Int) (i : Int) : List Int := us.set i.toNat (IntKind.i64.wrap (us.getD i.toNat 0 + 1))
def usN (us : List Int) (x : Nd) : List Int := if pcN x.op = 0 then us else if pcN x.op = 1 then incAt us x.a else incAt (incAt us x.a) x.b
theorem incAt_length (us : List Int) (i : Int) : (incAt us i).length = us.length := by simp [incAt]
theorem usN_length (us : List Int) (x : Nd) : (usN us x).length = us.length := by
  unfold usN; split
  · rfl
  · split <;> simp [incAt_length]
def usTo (ns : List Nd) : Nat → List Int
  | 0 => List.replicate ns.length 0
  | k + 1 => usN (usTo ns k) (ns.getD k default)
theorem usTo_length (ns : List Nd) : ∀ k, (usTo ns k).length = ns.length
  | 0 => by simp [usTo]
  | k + 1 => by rw [usTo, usN_length, usTo_length ns k]
def usL (xss : List (List Int)) (ns : List Nd) : List Int := if (shM xss ns).2 = true then usTo ns ns.length else []
theorem retLM {env : List AV} {rows : List Row} {ctr τ ver : Nat} {t : TypeId} {zs zs' : List Int} {r : Row} {n : Nat} (hz : zs' = zs) (hr : rows[τ]? = some r) (hv : r.ver = ver) (e : r = ⟨ver, t, 1, zs.map (.int .i64)⟩) (hn : n = zs.length) :
    RetB ⟨env, rows, ctr, 0⟩ [] (fun r ic news => r = .ref 0 0 0 zs'.length ∧ ic = [] ∧ news = [⟨0, t, 1, zs'.map (.int .i64)⟩]) (.ref τ ver 0 n) := by
  subst hz; exact retL hr hv e hn
attribute [local irreducible] aPlan aGet aIf aLoop aCall RetB NextB CallB CallG aCut aSet aAppend
def sUses : CSpec := fnL (ι := Nat × List (List Int) × List Nd) 3 (fun | (c, xss, ns) => [.agg [.sl c xss.length (xss.map (slI c)), .sl c ns.length (ns.flatMap (ndC c))]]) (fun | (_, _, ns) => eP ns) (fun | (_, xss, ns) => usL xss ns)
end Go.Proofs.YtpbenelmklggcaaGreat
namespace Go.Proofs.YtpbenelmklggcaaGreat
set_option maxRecDepth 20000
open Go.RowKit Go.Am
set_option linter.unusedSimpArgs false
attribute [local irreducible] aPlan aGet aIf aLoop aCall RetB NextB CallB CallG aCut aSet aAppend
def usP (us : List Int) (x : Nd) : Nat → List Int
  | 0 => us
  | j + 1 => incAt (usP us x j) (([x.a, x.b] : List Int).getD j 0)
theorem usP_length (us : List Int) (x : Nd) : ∀ j, (usP us x j).length = us.length
  | 0 => rfl
  | j + 1 => by rw [usP, incAt_length, usP_length us x j]
theorem usP_all {us : List Int} {x : Nd} {j : Nat} (h : (j : Int) = pcN x.op) : usN us x = usP us x j := by
  rcases pcN_cases x.op with ⟨h1, -⟩ | ⟨h1, -⟩ | ⟨h1, -⟩
  · have : j = 0 := by omega
    subst this; unfold usN; rw [if_pos h1]; rfl
  · have : j = 1 := by omega
    subst this; unfold usN; rw [if_neg (by omega), if_pos h1]; rfl
  · have : j = 2 := by omega
    subst this; unfold usN; rw [if_neg (by omega), if_neg (by omega)]; rfl
theorem parts_in {x : Nd} {k n : Nat} {m : Int} (hf : formP x k m) (hk : k < n) : ∀ j : Nat, (j : Int) < pcN x.op → 0 ≤ ([x.a, x.b] : List Int).getD j 0 ∧ ([x.a, x.b] : List Int).getD j 0 < n := by
  obtain ⟨f1, f2, f3, f4, f5, f6, f7⟩ := hf
  intro j hj
  rcases pcN_cases x.op with ⟨h1, h2⟩ | ⟨h1, h2⟩ | ⟨h1, h2, h3⟩
  · omega
  · have : j = 0 := by omega
    subst this
    show 0 ≤ x.a ∧ x.a < n
    omega
  · have : j = 0 ∨ j = 1 := by omega
    rcases this with rfl | rfl
    · show 0 ≤ x.a ∧ x.a < n
      omega
    · show 0 ≤ x.b ∧ x.b < n
      omega
theorem pcN_le2 (op : Int) : pcN op ≤ 2 ∧ 0 ≤ pcN op := by rcases pcN_cases op with h | h | h <;> omega
set_option maxHeartbeats 4000000 in
theorem iUsesOf_sound : Sound Tryz.prog 39 sUses := by
  refine sound_of Tryz.func39 rfl (enters_of Tryz.func39 (by kernel_rfl) (by kernel_rfl)) ?_
  rintro ⟨c, xss, ns⟩ hpre
  have hE : eP ns := hpre
  have hmax : maxLen = 9223372036854775807 := rfl
  cases hM : (shM xss ns).2 with
  | false =>
    conv => whnf
    repeat' (first
      | ((first | refine load_same ?_ | refine And.intro rfl (And.intro (List.cons_ne_nil _ _) ?_) | refine And.intro (Nat.le_of_ble_eq_true rfl) ?_ | refine callG_t ?_ | refine append_same ?_ | refine And.intro (pureL_ii _ _) ?_ | refine And.intro (pureL_nd _ _) ?_); conv => whnf) | (refine iExprOk_call (by first | omega | assumption | (refine ⟨?_, ?_⟩ <;> first | assumption | omega) | (refine ⟨?_, ?_, ?_⟩ <;> first | assumption | omega)) ?_; conv => whnf) | ((first | refine takeN_in ?_ | refine And.intro (by kernel_rfl) ?_ | refine aIf_ff (by assumption) ?_); conv => whnf) | refine aIf_not ?_)
    exact retLM (if_neg (by rw [hM]; decide)) rfl rfl rfl rfl
  | true =>
    obtain ⟨⟨h1, h12⟩, hform⟩ := shM_form hM
    conv => whnf
    repeat' (first
      | ((first | refine fun (_ : _ ≤ maxLen) => ?_ | refine aGet_in rfl ?_ | refine And.intro (And.intro (Int.le_refl _) (And.intro (by kernel_rfl) (And.intro rfl (by kernel_rfl)))) (And.intro (And.intro (by omega) (And.intro (bytes_le (b := 8) rfl (by omega)) (by omega))) ?_) | refine load_same ?_ | refine And.intro rfl (And.intro (List.cons_ne_nil _ _) ?_) | refine And.intro (Nat.le_of_ble_eq_true rfl) ?_ | refine callG_t ?_ | refine append_same ?_ | refine And.intro (pureL_ii _ _) ?_ | refine And.intro (pureL_nd _ _) ?_); conv => whnf) | (refine iExprOk_call (by first | omega | assumption | (refine ⟨?_, ?_⟩ <;> first | assumption | omega) | (refine ⟨?_, ?_, ?_⟩ <;> first | assumption | omega)) ?_; conv => whnf) | ((first | refine takeN_in ?_ | refine And.intro (by kernel_rfl) ?_ | refine aIf_tt (by assumption) ?_); conv => whnf) | refine aIf_not ?_)
    refine loop_u (ι := Nat) [false, false, false, true, false, false, false, false, false, false, false, false, false, false, false, false, true, true, true, false, false, false, false, false, false, false, false, false, false, false, false, false, false, false, false, false, false, false] (fun k => [(18, .int .i64 k)]) (fun k => [(2, (usTo ns k).map (.int .i64))]) (fun k => k ≤ ns.length) (fun k => ns.length - k) (0) (Nat.zero_le _) ?_ ?_
    · conv => whnf
      repeat' (first
        | exact trivial | exact rfl
        | exact Or.inl (And.intro rfl rfl) | exact le_ints (rep_ints _ _)
        | exact pureL_ii _ _ | exact pureL_nd _ _
        | refine Or.inr ?_ | refine And.intro ?_ ?_
        | exact Nat.le_of_ble_eq_true rfl)
    · rintro k hk
      have hk : k ≤ ns.length := hk
      have hl := usTo_length ns k
      by_cases hlt : k < ns.length
      · have hp := parts_in (hform k hlt) hlt
        have hpc := pcN_le2 (ns.getD k default).op
        have hlen : ([(ns.getD k default).a, (ns.getD k default).b] : List Int).length = 2 := rfl
        conv => whnf
        repeat' (first
          | ((first | refine fun (_ : _ ≤ maxLen) => ?_ | refine And.intro (by omega) ?_ | refine load_same ?_ | refine And.intro (Nat.le_of_ble_eq_true rfl) ?_ | refine callG_t ?_ | refine append_same ?_ | refine part_nd_n (by omega) ?_ | refine partsOf_call ?_ | refine takeN_in ?_ | refine And.intro (pureL_ints _ _) ?_ | refine set_force ?_ | refine And.intro (by kernel_rfl) ?_); conv => whnf) | (refine aIf_dec (fun _ => ?_) (fun _ => ?_) <;> conv => whnf))
        all_goals (first | (exfalso; omega) | skip)
        refine loop_u (ι := Nat) [false, false, false, true, false, false, false, false, false, false, false, false, false, false, false, false, true, true, true, false, false, false, false, true, true, true, false, false, false, false, false, false, false, false, false, false, false, false] (fun j => [(25, .int .i64 j)]) (fun j => [(2, (usP (usTo ns k) (ns.getD k default) j).map (.int .i64))]) (fun j => (j : Int) ≤ pcN (ns.getD k default).op) (fun j => 2 - j) (0) (by omega) ?_ ?_
        · conv => whnf
          repeat' (first
            | exact trivial | exact rfl
            | exact pureL_ints _ _ | exact Or.inl (And.intro rfl rfl)
            | exact le_ints rfl | exact pureL_ii _ _
            | exact pureL_nd _ _ | refine Or.inr ?_
            | refine And.intro ?_ ?_ | exact Nat.le_of_ble_eq_true rfl)
        · rintro j hj
          have hj : (j : Int) ≤ pcN (ns.getD k default).op := hj
          have hul := usP_length (usTo ns k) (ns.getD k default) j
          by_cases hjl : (j : Int) < pcN (ns.getD k default).op
          · have hpj := hp j hjl
            conv => whnf
            repeat' (first
              | ((first | refine get_nat0 (by omega) ?_ | refine get_int0 (by omega) ?_ | refine And.intro (by omega) ?_ | refine append_same ?_ | refine And.intro rfl (And.intro rfl (And.intro (by first | omega | (rw [List.length_map]; omega)) ?_)) | refine set_int ?_ (by omega)); conv => whnf) | (refine aIf_dec (fun _ => ?_) (fun _ => ?_) <;> conv => whnf))
            all_goals (first | (exfalso; omega) | skip)
            refine next_u (j + 1) (show 2 - (j + 1) < 2 - j by omega) (by show ((j + 1 : Nat) : Int) ≤ _; omega) ?_
            conv => whnf
            repeat' (first
              | exact trivial | exact rfl
              | exact pureL_ints _ _ | exact Or.inl (And.intro rfl rfl)
              | exact le_ints rfl | exact pureL_ii _ _
              | exact pureL_nd _ _ | refine Or.inr ?_
              | refine And.intro ?_ ?_ | exact Nat.le_of_ble_eq_true rfl
              | exact int_eq (by rw [IntWalk.i64_in _ (by omega)] <;> omega))
          · have hn : usTo ns (k + 1) = usP (usTo ns k) (ns.getD k default) j := usP_all (by omega)
            conv => whnf
            repeat' (first
              | ((first | refine get_nat0 (by omega) ?_ | refine And.intro (by omega) ?_ | refine append_same ?_ | refine set_nat ?_ (by omega)); conv => whnf) | (refine aIf_dec (fun _ => ?_) (fun _ => ?_) <;> conv => whnf))
            all_goals (first | (exfalso; omega) | skip)
            refine next_u (k + 1) (show ns.length - (k + 1) < ns.length - k by omega) (by exact (by omega : k + 1 ≤ ns.length)) ?_
            conv => whnf
            repeat' (first
              | exact trivial | exact rfl
              | exact Or.inl (And.intro rfl rfl) | exact pureL_ii _ _
              | exact pureL_nd _ _ | refine le_ints ?_
              | refine Or.inr ?_ | refine And.intro ?_ ?_
              | exact Nat.le_of_ble_eq_true rfl | exact int_eq (by rw [IntWalk.i64_in _ (by omega)] <;> omega))
            all_goals (first | (rw [hn]; done) | (rw [hn]; rfl) | skip)
      · conv => whnf
        repeat' (first
          | ((first | refine fun (_ : _ ≤ maxLen) => ?_ | refine And.intro (by omega) ?_ | refine load_same ?_ | refine callG_t ?_ | refine append_same ?_ | refine part_nd_n (by omega) ?_ | refine partsOf_call ?_ | refine takeN_in ?_ | refine set_force ?_); conv => whnf) | (refine aIf_dec (fun _ => ?_) (fun _ => ?_) <;> conv => whnf))
        all_goals (first | (exfalso; omega) | contradiction | skip)
        have he : k = ns.length := by omega
        subst he
        exact retLM (if_pos hM) rfl rfl rfl (by rw [hl]; rfl)
theorem iUsesOf_call {c : Nat} {xss : List (List Int)} {ns : List Nd} {env : List AV} {rows : List Row} {ctr low : Nat} {k : AV → St → Prop} (hpre : eP ns) (h : k (.ref rows.length ctr 0 (usL xss ns).length) ⟨env, rows ++ [⟨ctr, 3, 1, (usL xss ns).map (.int .i64)⟩], ctr + 1, low⟩) :
    CallB Tryz.prog 39 ⟨env, rows, ctr, low⟩ [.agg [.sl c xss.length (xss.map (slI c)), .sl c ns.length (ns.flatMap (ndC c))]] k := callL_in iUsesOf_sound (c, xss, ns) hpre h
end Go.Proofs.YtpbenelmklggcaaGreat
namespace Go.Proofs.YtpbenelmklggcaaGreat
set_option maxRecDepth 20000
open Go.RowKit Go.Am
set_option linter.unusedSimpArgs false
attribute [local irreducible] aPlan aGet aIf aLoop aCall RetB NextB CallB CallG aCut aSet aAppend
def neStep (bs : List Bool) (x : Nd) : Nat → List Bool
  | 0 => bs
  | j + 1 => (neStep bs x j).set (([x.a, x.b] : List Int).getD j 0).toNat true
theorem neStep_length (bs : List Bool) (x : Nd) : ∀ j, (neStep bs x j).length = bs.length
  | 0 => rfl
  | j + 1 => by rw [neStep, List.length_set, neStep_length bs x j]
def neAt (ns : List Nd) : Nat → List Bool
  | 0 => (List.replicate ns.length false).set (ns.length - 1) true
  | m + 1 => if (neAt ns m).getD (ns.length - 1 - m) false = true then neStep (neAt ns m) (ns.getD (ns.length - 1 - m) default) (pcN (ns.getD (ns.length - 1 - m) default).op).toNat else neAt ns m
theorem neAt_length (ns : List Nd) : ∀ m, (neAt ns m).length = ns.length
  | 0 => by simp [neAt]
  | m + 1 => by
    unfold neAt; split
    · rw [neStep_length, neAt_length ns m]
    · exact neAt_length ns m
def neI (ns : List Nd) (i : Int) : List Bool := neAt ns ((ns.length : Int) - 1 - i).toNat
theorem neI_length (ns : List Nd) (i : Int) : (neI ns i).length = ns.length := neAt_length _ _
theorem neI_next {ns : List Nd} {i : Int} (h0 : 0 ≤ i) (h1 : i < ns.length) : neI ns (i - 1) = if (neI ns i).getD i.toNat false = true then neStep (neI ns i) (ns.getD i.toNat default) (pcN (ns.getD i.toNat default).op).toNat else neI ns i := by
  unfold neI
  have e : ((ns.length : Int) - 1 - (i - 1)).toNat = ((ns.length : Int) - 1 - i).toNat + 1 := by omega
  have e' : ns.length - 1 - ((ns.length : Int) - 1 - i).toNat = i.toNat := by omega
  rw [e, neAt, e']
theorem neI_t {ns : List Nd} {i : Int} (h0 : 0 ≤ i) (h1 : i < ns.length) (hb : (neI ns i).getD i.toNat false = true) : neI ns (i - 1) = neStep (neI ns i) (ns.getD i.toNat default) (pcN (ns.getD i.toNat default).op).toNat := by
  rw [neI_next h0 h1, if_pos hb]
theorem neI_f {ns : List Nd} {i : Int} (h0 : 0 ≤ i) (h1 : i < ns.length) (hb : (neI ns i).getD i.toNat false = false) : neI ns (i - 1) = neI ns i := by
  rw [neI_next h0 h1, if_neg (by rw [hb]; decide)]
def neL (xss : List (List Int)) (ns : List Nd) : List Bool := if (shM xss ns).2 = true then neI ns (-1) else []
theorem retBM {env : List AV} {rows : List Row} {ctr τ ver m : Nat} {t : TypeId} {zs zs' : List Bool} (hz : zs' = zs) (hr : rows[τ]? = some ⟨ver, t, 1, zs.map .bool⟩) (hm : m = zs.length) :
    RetB ⟨env, rows, ctr, 0⟩ [] (fun r ic news => ic = [] ∧ r = .ref 0 0 0 zs'.length ∧ news = [⟨0, t, 1, zs'.map .bool⟩]) (.ref τ ver 0 m) := by
  subst hz; subst hm
  exact retR hr (protL_bools _) rfl rfl
theorem set_repb {n : Nat} {cs : List AV} {i : Int} {b : Bool} {K : List AV → Prop} (hc : cs = [AV.bool false]) (h : 0 ≤ i ∧ i < n) (hK : K (((List.replicate n false).set i.toNat b).map .bool)) : aSet (rep n cs) (0 + i.toNat * 1) [.bool b] K := by
  subst hc; rw [rep_bools]; exact set_bool hK (by simp; omega)
theorem repb_fit {n : Nat} {cs : List AV} {i : Int} (hc : cs = [AV.bool false]) (h : 0 ≤ i ∧ i < n) : 0 + i.toNat * 1 + 1 ≤ (rep n cs).length := by
  subst hc; rw [rep_bools]; simp; omega
theorem neI_0 {ns : List Nd} {w : Int} (h : 1 ≤ ns.length) (hw : w = ns.length - 1) : (((List.replicate ((ns.length : Int).toNat) false).set w.toNat true).map AV.bool) = (neI ns ((ns.length : Int) - 1)).map .bool := by
  subst hw
  have e : ((ns.length : Int) - 1 - ((ns.length : Int) - 1)).toNat = 0 := by omega
  have e' : ((ns.length : Int) - 1).toNat = ns.length - 1 := by omega
  unfold neI
  rw [e, neAt, e', Int.toNat_natCast]
def sNeeded : CSpec := fnR (ι := Nat × List (List Int) × List Nd) 4 1 (fun | (c, xss, ns) => [.agg [.sl c xss.length (xss.map (slI c)), .sl c ns.length (ns.flatMap (ndC c))]]) (fun | (_, _, ns) => eP ns) (fun | (_, xss, ns) => (neL xss ns).length) (fun | (_, xss, ns) => (neL xss ns).map .bool)
end Go.Proofs.YtpbenelmklggcaaGreat
