import Derived.Test.YtjmdhfjemaoebaaGreatM0x40
import Derived.Test.YtjmdhfjemaoebaaGreatM0x35
import Derived.Test.YtjmdhfjemaoebaaGreatM0x34
import Derived.Test.YtjmdhfjemaoebaaGreatM0x38
namespace Go.Proofs.YtjmdhfjemaoebaaGreat
set_option maxRecDepth 20000
open Go.RowKit Go.Am
set_option linter.unusedSimpArgs false
attribute [local irreducible] aPlan aGet aIf aLoop aCall RetB NextB CallB CallG aCut aSet aAppend
theorem dropOk_sound : Sound Tryz.prog 88 (fnS (ι := Nat × List Int × Nat) (fun | (c, us, q) => [.sl c us.length (us.map (.int .i64)), .int .i64 q]) (fun | (_, us, q) => q < us.length ∧ us.length ≤ 1048576) (fun | (_, us, q) => .bool (decide (us.getD q 0 = 0 ∧ q + 1 < us.length)))) := by
  refine sound_of Tryz.func88 rfl (enters_of Tryz.func88 (by kernel_rfl) (by kernel_rfl)) ?_
  rintro ⟨c, us, q⟩ hpre
  have hpre : q < us.length ∧ us.length ≤ 1048576 := hpre
  have hmax : maxLen = 9223372036854775807 := rfl
  have hw : IntKind.i64.wrap ((us.length : Int) - 1) = us.length - 1 := IntWalk.i64_in _ (by omega)
  conv => whnf
  repeat' (first
    | ((first | refine aIf_t ?_ | refine aIf_f ?_ | refine fun (_ : _ ≤ maxLen) => ?_ | refine get_nat (by omega) ?_ | refine And.intro (by omega) ?_ | refine append_same ?_); conv => whnf) | refine aIf_eqt ?_
    | (refine aIf_dec (fun _ => ?_) (fun _ => ?_) <;> conv => whnf))
  all_goals (first | (exfalso; omega) | contradiction | skip)
  all_goals refine retS rfl (congrArg AV.bool ?_)
  all_goals (first | exact (decide_eq_false (by omega)).symm | exact Bool.eq_iff_iff.2 (by simp only [decide_eq_true_eq, beq_iff_eq, bne_iff_ne]; omega))
theorem dropOk_call {c q : Nat} {us : List Int} {env : List AV} {rows : List Row} {ctr low : Nat} {k : AV → St → Prop} (hpre : q < us.length ∧ us.length ≤ 1048576) (h : k (.bool (decide (us.getD q 0 = 0 ∧ q + 1 < us.length))) ⟨env, rows, ctr + 1, low⟩) :
    CallB Tryz.prog 88 ⟨env, rows, ctr, low⟩ [.sl c us.length (us.map (.int .i64)), .int .i64 q] k := callS_in dropOk_sound (c, us, q) hpre rfl h
set_option maxHeartbeats 8000000 in
theorem closedUp_sound : Sound Tryz.prog 140 (fnN (ι := Nat × Nd × Nat) 3 (fun | (c, x, g) => [.agg [.int .i64 x.op, .int .i64 x.a, .int .i64 x.b, .sl c x.l.length (x.l.map (.int .i64))], .int .i64 g]) (fun | (_, x, _) => x.l.length ≤ 1048576) (fun | (_, x, g) => clo g x)) := by
  refine sound_of Tryz.func140 rfl (enters_of Tryz.func140 (by kernel_rfl) (by kernel_rfl)) ?_
  rintro ⟨c, x, g⟩ hpre
  have hl : x.l.length ≤ 1048576 := hpre
  have hpc := pcN_cases x.op
  by_cases ha : pcN x.op ≠ 0 ∧ (g : Int) < x.a
  · by_cases hb : (g : Int) < x.b
    · have hM : clo g x = ⟨x.op, IntKind.i64.wrap (x.a - 1), IntKind.i64.wrap (x.b - 1), x.l⟩ := by unfold clo; rw [if_pos ha, if_pos hb]
      conv => whnf
      repeat' (first
        | ((first | refine aIf_t ?_ | refine aIf_f ?_ | refine aGet_in rfl ?_ | refine And.intro (by omega) ?_ | refine load_same ?_ | refine And.intro rfl (And.intro (List.cons_ne_nil _ _) ?_) | refine And.intro (Nat.le_of_ble_eq_true rfl) ?_ | refine callG_t ?_ | refine append_same ?_ | refine partCount_call trivial ?_ | refine copyNode_call (by first | assumption | omega) ?_ | refine takeN_in ?_ | refine And.intro (pureL_ints _ _) ?_ | refine set_force ?_ | refine And.intro (by kernel_rfl) ?_); conv => whnf) | refine aIf_eqt ?_
        | (refine aIf_dec (fun _ => ?_) (fun _ => ?_) <;> conv => whnf))
      all_goals (first | (exfalso; omega) | contradiction | skip)
      all_goals exact retN rfl rfl hM
    · have hM : clo g x = ⟨x.op, IntKind.i64.wrap (x.a - 1), x.b, x.l⟩ := by unfold clo; rw [if_pos ha, if_neg hb]
      conv => whnf
      repeat' (first
        | ((first | refine aIf_t ?_ | refine aIf_f ?_ | refine aGet_in rfl ?_ | refine And.intro (by omega) ?_ | refine load_same ?_ | refine And.intro rfl (And.intro (List.cons_ne_nil _ _) ?_) | refine And.intro (Nat.le_of_ble_eq_true rfl) ?_ | refine callG_t ?_ | refine append_same ?_ | refine partCount_call trivial ?_ | refine copyNode_call (by first | assumption | omega) ?_ | refine takeN_in ?_ | refine And.intro (pureL_ints _ _) ?_ | refine set_force ?_ | refine And.intro (by kernel_rfl) ?_); conv => whnf) | refine aIf_eqt ?_
        | (refine aIf_dec (fun _ => ?_) (fun _ => ?_) <;> conv => whnf))
      all_goals (first | (exfalso; omega) | contradiction | skip)
      all_goals exact retN rfl rfl hM
  · by_cases hb : (g : Int) < x.b
    · have hM : clo g x = ⟨x.op, x.a, IntKind.i64.wrap (x.b - 1), x.l⟩ := by unfold clo; rw [if_neg ha, if_pos hb]
      conv => whnf
      repeat' (first
        | ((first | refine aIf_t ?_ | refine aIf_f ?_ | refine aGet_in rfl ?_ | refine And.intro (by omega) ?_ | refine load_same ?_ | refine And.intro rfl (And.intro (List.cons_ne_nil _ _) ?_) | refine And.intro (Nat.le_of_ble_eq_true rfl) ?_ | refine callG_t ?_ | refine append_same ?_ | refine partCount_call trivial ?_ | refine copyNode_call (by first | assumption | omega) ?_ | refine takeN_in ?_ | refine And.intro (pureL_ints _ _) ?_ | refine set_force ?_ | refine And.intro (by kernel_rfl) ?_); conv => whnf) | refine aIf_eqt ?_
        | (refine aIf_dec (fun _ => ?_) (fun _ => ?_) <;> conv => whnf))
      all_goals (first | (exfalso; omega) | contradiction | skip)
      all_goals exact retN rfl rfl hM
    · have hM : clo g x = ⟨x.op, x.a, x.b, x.l⟩ := by unfold clo; rw [if_neg ha, if_neg hb]
      conv => whnf
      repeat' (first
        | ((first | refine aIf_t ?_ | refine aIf_f ?_ | refine aGet_in rfl ?_ | refine And.intro (by omega) ?_ | refine load_same ?_ | refine And.intro rfl (And.intro (List.cons_ne_nil _ _) ?_) | refine And.intro (Nat.le_of_ble_eq_true rfl) ?_ | refine callG_t ?_ | refine append_same ?_ | refine partCount_call trivial ?_ | refine copyNode_call (by first | assumption | omega) ?_ | refine takeN_in ?_ | refine And.intro (pureL_ints _ _) ?_ | refine set_force ?_ | refine And.intro (by kernel_rfl) ?_); conv => whnf) | refine aIf_eqt ?_
        | (refine aIf_dec (fun _ => ?_) (fun _ => ?_) <;> conv => whnf))
      all_goals (first | (exfalso; omega) | contradiction | skip)
      all_goals exact retN rfl rfl hM
theorem closedUp_call {c g : Nat} {x : Nd} {env : List AV} {rows : List Row} {ctr low : Nat} {k : AV → St → Prop} (hpre : x.l.length ≤ 1048576) (h : k (.agg [.int .i64 (clo g x).op, .int .i64 (clo g x).a, .int .i64 (clo g x).b, .ref rows.length ctr 0 (clo g x).l.length]) ⟨env, rows ++ [⟨ctr, 3, 1, (clo g x).l.map (.int .i64)⟩], ctr + 1, low⟩) :
    CallB Tryz.prog 140 ⟨env, rows, ctr, low⟩ [.agg [.int .i64 x.op, .int .i64 x.a, .int .i64 x.b, .sl c x.l.length (x.l.map (.int .i64))], .int .i64 g] k := callN_in closedUp_sound (c, x, g) hpre h
end Go.Proofs.YtjmdhfjemaoebaaGreat
namespace Go.Proofs.YtjmdhfjemaoebaaGreat
set_option maxRecDepth 20000
open Go.RowKit Go.Am
set_option linter.unusedSimpArgs false
attribute [local irreducible] aPlan aGet aIf aLoop aCall RetB NextB CallB CallG aCut aSet aAppend
def wnE (xss : List (List Int)) (ns : List Nd) (g : Nat) : Ex := if drP xss ns g then (xss, dropN ns g) else ([], [])
theorem ExI.ins3 {xss ss : List (List Int)} {ns : List Nd} (h : ExI xss ns ss) : xss.length ≤ 3 ∧ ∀ k, k < xss.length → (xss.getD k []).length ≤ 3 := ⟨h.ins.1, fun k hk => ok_len3 (h.ins.2 k hk)⟩
def sWithout : CSpec := fnEB (ι := Nat × List (List Int) × List Nd × Nat) 3 38 75 (fun | (c, xss, ns, g) => [.agg [.sl c xss.length (xss.map (slI c)), .sl c ns.length (ns.flatMap (ndC c))], .int .i64 g]) (fun | (_, xss, ns, g) => eP ns ∧ (shM xss ns).2 = true ∧ g < ns.length) (fun | (_, xss, ns, g) => wnE xss ns g) (fun | (_, xss, ns, g) => decide (drP xss ns g))
set_option maxHeartbeats 8000000 in
theorem withoutNode_sound : Sound Tryz.prog 91 sWithout := by
  refine sound_of Tryz.func91 rfl (enters_of Tryz.func91 (by kernel_rfl) (by kernel_rfl)) ?_
  rintro ⟨c, xss, ns, g⟩ hpre
  obtain ⟨hE, hM, hg⟩ : eP ns ∧ (shM xss ns).2 = true ∧ g < ns.length := hpre
  have hX := exI_of hM
  have h12 := hX.n12
  have hul : (usL xss ns).length = ns.length := by unfold usL; rw [if_pos hM, usTo_length]
  have hmax : maxLen = 9223372036854775807 := rfl
  by_cases hd : drP xss ns g
  · have hd' : (usL xss ns).getD g 0 = 0 ∧ g + 1 < (usL xss ns).length := hd
    obtain ⟨hi3, hik⟩ := hX.ins3
    have hcl : xss.length ≤ 1000 ∧ ∀ k, k < xss.length → (xss.getD k []).length ≤ 1048576 := ⟨by omega, fun k hk => by have := hik k hk; omega⟩
    have hW : wnE xss ns g = (xss, dropN ns g) := if_pos hd
    conv => whnf
    repeat' (first
      | ((first | refine plan_in (id := 8) [0, 1, 2, 3, 4, 5, 6, 7, 8] (by kernel_rfl) (by kernel_rfl) ?_ | refine fun (_ : _ ≤ maxLen) => ?_ | refine aGet_in rfl ?_ | refine And.intro (by omega) ?_ | refine load_same ?_ | refine And.intro rfl (And.intro (List.cons_ne_nil _ _) ?_) | refine And.intro (Nat.le_of_ble_eq_true rfl) ?_ | refine callG_t ?_ | refine append_same ?_ | refine And.intro (pureL_ii _ _) ?_ | refine And.intro (pureL_nd _ _) ?_); conv => whnf) | (refine iUsesOf_call (by first | omega | assumption | (refine ⟨?_, ?_⟩ <;> first | assumption | omega) | (refine ⟨?_, ?_, ?_⟩ <;> first | assumption | omega)) ?_; conv => whnf) | (refine copyLists_call (by assumption) ?_; conv => whnf) | (refine dropOk_call (by first | omega | assumption | (refine ⟨?_, ?_⟩ <;> first | assumption | omega) | (refine ⟨?_, ?_, ?_⟩ <;> first | assumption | omega)) ?_; conv => whnf) | ((first | refine takeN_in ?_ | refine cut_ints ?_ | refine set_force ?_ | refine And.intro (by kernel_rfl) ?_); conv => whnf) | refine aIf_not ?_
      | (refine aIf_dec (fun _ => ?_) (fun _ => ?_) <;> conv => whnf))
    all_goals (first | (exfalso; omega) | contradiction | skip)
    refine loop_ut (ι := Nat) [false, true, false, false, true, false, true, false, false, false, false, false, false, false, false, false, false, false, false, false, true, true, true, false, false, false, false, false, false, false, false, false, false, false, false, false, false, false, false, false] (fun k => [(22, .int .i64 k)]) (fun k => [(9, [.ref 5 7 0 xss.length, .ref 6 8 0 (dTo ns g k).length]), (6, (dTo ns g k).flatMap (ndO 3))]) (fun k => k ≤ ns.length) (fun k => ns.length - k) (0) (Nat.zero_le _) ?_ ?_
    · conv => whnf
      refine St.le.to ?_
      conv => whnf
      repeat' (first
        | exact trivial | exact rfl
        | exact Or.inl (And.intro rfl rfl) | exact le_ints rfl
        | exact pureL_ii _ _ | exact pureL_nd _ _
        | exact Or.inl (And.intro (pureL_oi _ _) rfl) | refine Or.inr ?_
        | refine And.intro ?_ ?_ | exact Nat.le_of_ble_eq_true rfl)
    · rintro k hk
      have hk : k ≤ ns.length := hk
      have hdl := dTo_le ns g k
      by_cases hlt : k < ns.length
      · have h3 := hX.l3 hlt
        by_cases hkg : (k : Int) = g
        · have hkg' : k = g := by omega
          have hn := dTo_g (ns := ns) hkg'
          conv => whnf
          repeat' (first
            | ((first | refine plan_in (id := 8) [0, 1, 2, 3, 4, 5, 6, 7, 8] (by kernel_rfl) (by kernel_rfl) ?_ | refine aGet_in rfl ?_ | refine And.intro (by omega) ?_ | refine load_same ?_ | refine And.intro (Nat.le_of_ble_eq_true rfl) ?_ | refine append_same ?_ | refine part_nd_n (by omega) ?_ | refine closedUp_call (by first | assumption | omega) ?_ | refine takeN_in ?_ | refine set_force ?_ | refine And.intro (by kernel_rfl) ?_); conv => whnf) | refine aIf_not ?_
            | (refine aIf_dec (fun _ => ?_) (fun _ => ?_) <;> conv => whnf))
          all_goals (first | (exfalso; omega) | contradiction | skip)
          refine next_ut (k + 1) (show ns.length - (k + 1) < ns.length - k by omega) (by exact (by omega : k + 1 ≤ ns.length)) ?_
          rw [hn]
          conv => whnf
          refine St.le.to ?_
          conv => whnf
          repeat' (first
            | exact trivial | exact rfl
            | exact Or.inl (And.intro rfl rfl) | exact le_ints rfl
            | exact pureL_ii _ _ | exact pureL_nd _ _
            | exact Or.inl (And.intro (pureL_oi _ _) rfl) | exact Or.inl (And.intro (pureL_ond _ _) rfl)
            | refine Or.inr ?_ | refine And.intro ?_ ?_
            | exact Nat.le_of_ble_eq_true rfl | exact int_eq (by rw [IntWalk.i64_in _ (by omega)] <;> omega))
        · have hn := dTo_n (ns := ns) (show ¬ k = g by omega)
          have hnl : (dTo ns g (k + 1)).length = (dTo ns g k).length + 1 := by rw [hn, List.length_append, List.length_singleton]
          conv => whnf
          repeat' (first
            | ((first | refine plan_in (id := 8) [0, 1, 2, 3, 4, 5, 6, 7, 8] (by kernel_rfl) (by kernel_rfl) ?_ | refine aGet_in rfl ?_ | refine And.intro (by omega) ?_ | refine load_same ?_ | refine And.intro (Nat.le_of_ble_eq_true rfl) ?_ | refine append_same ?_ | refine part_nd_n (by omega) ?_ | refine closedUp_call (by first | assumption | omega) ?_ | refine takeN_in ?_ | refine And.intro (pureL_ints _ _) ?_ | refine set_force ?_ | refine And.intro (And.intro (by kernel_rfl) (And.intro rfl (Nat.le_of_ble_eq_true rfl))) ?_ | refine And.intro (by kernel_rfl) ?_); conv => whnf) | refine aIf_not ?_
            | (refine aIf_dec (fun _ => ?_) (fun _ => ?_) <;> conv => whnf))
          all_goals (first | (exfalso; omega) | contradiction | skip)
          refine append_nd rfl (flat_len (ndO_length _) _) rfl rfl (by omega) (Nat.zero_le _) ?_
          conv => whnf
          repeat' (first
            | ((first | refine plan_in (id := 8) [0, 1, 2, 3, 4, 5, 6, 7, 8] (by kernel_rfl) (by kernel_rfl) ?_ | refine And.intro (Nat.le_of_ble_eq_true rfl) ?_ | refine append_same ?_ | refine set_force ?_ | refine And.intro (by kernel_rfl) ?_); conv => whnf))
          refine next_ut (k + 1) (show ns.length - (k + 1) < ns.length - k by omega) (by exact (by omega : k + 1 ≤ ns.length)) ?_
          rw [hnl, hn]
          conv => whnf
          refine to_close 6 ((dTo ns g k).length * 4 + 3) 12 _ _ 1 3 _ _ rfl (get_nodeN rfl) rfl (by decide) (Nat.zero_le _) (by decide) (by simp) ?_
          refine St.le.to ?_
          conv => whnf
          repeat' (first | exact le_nodeN (n := clo g (ns.getD k default)) rfl rfl | refine And.intro ?_ ?_)
          repeat' (first
            | exact trivial | exact rfl
            | exact Or.inl (And.intro rfl rfl) | exact le_ints rfl
            | exact pureL_ii _ _ | exact pureL_nd _ _
            | exact Or.inl (And.intro (pureL_oi _ _) rfl) | refine Or.inr ?_
            | refine And.intro ?_ ?_ | exact Nat.le_of_ble_eq_true rfl
            | exact int_eq (by rw [IntWalk.i64_in _ (by omega)] <;> omega))
      · have he : k = ns.length := by omega
        subst he
        conv => whnf
        repeat' (first
          | ((first | refine plan_in (id := 8) [0, 1, 2, 3, 4, 5, 6, 7, 8] (by kernel_rfl) (by kernel_rfl) ?_ | refine aGet_in rfl ?_ | refine And.intro (by omega) ?_ | refine load_same ?_ | refine And.intro (Nat.le_of_ble_eq_true rfl) ?_ | refine append_same ?_ | refine part_nd_n (by omega) ?_ | refine closedUp_call (by first | assumption | omega) ?_ | refine takeN_in ?_ | refine set_force ?_ | refine And.intro (by kernel_rfl) ?_); conv => whnf) | refine aIf_not ?_
          | (refine aIf_dec (fun _ => ?_) (fun _ => ?_) <;> conv => whnf))
        all_goals (first | (exfalso; omega) | contradiction | skip)
        exact retEB hW (decide_eq_true hd).symm (by decide) rfl rfl rfl rfl rfl rfl
  · have hd' : ¬ ((usL xss ns).getD g 0 = 0 ∧ g + 1 < (usL xss ns).length) := hd
    have hW : wnE xss ns g = ([], []) := if_neg hd
    conv => whnf
    repeat' (first
      | ((first | refine plan_in (id := 8) [0, 1, 2, 3, 4, 5, 6, 7, 8] (by kernel_rfl) (by kernel_rfl) ?_ | refine aGet_in rfl ?_ | refine And.intro (by omega) ?_ | refine load_same ?_ | refine And.intro rfl (And.intro (List.cons_ne_nil _ _) ?_) | refine And.intro (Nat.le_of_ble_eq_true rfl) ?_ | refine callG_t ?_ | refine append_same ?_ | refine And.intro (pureL_ii _ _) ?_ | refine And.intro (pureL_nd _ _) ?_); conv => whnf) | (refine iUsesOf_call (by first | omega | assumption | (refine ⟨?_, ?_⟩ <;> first | assumption | omega) | (refine ⟨?_, ?_, ?_⟩ <;> first | assumption | omega)) ?_; conv => whnf) | (refine dropOk_call (by first | omega | assumption | (refine ⟨?_, ?_⟩ <;> first | assumption | omega) | (refine ⟨?_, ?_, ?_⟩ <;> first | assumption | omega)) ?_; conv => whnf) | ((first | refine takeN_in ?_ | refine cut_ints ?_ | refine set_force ?_ | refine And.intro (by kernel_rfl) ?_); conv => whnf) | refine aIf_not ?_
      | (refine aIf_dec (fun _ => ?_) (fun _ => ?_) <;> conv => whnf))
    all_goals (first | (exfalso; omega) | contradiction | skip)
    all_goals exact retEB hW (decide_eq_false hd).symm (by decide) rfl rfl rfl rfl rfl rfl
theorem withoutNode_call {c g : Nat} {xss : List (List Int)} {ns : List Nd} {env : List AV} {rows : List Row} {ctr low : Nat} {k : AV → St → Prop} (hE : eP ns) (hM : (shM xss ns).2 = true) (hg : g < ns.length)
    (h : k (.tup [.agg [.ref rows.length ctr 0 (wnE xss ns g).1.length, .ref (rows.length + 1) ctr 0 (wnE xss ns g).2.length], .bool (decide (drP xss ns g))]) ⟨env, rows ++ [⟨ctr, 38, 1, (wnE xss ns g).1.map (ownI 3)⟩, ⟨ctr, 75, 4, (wnE xss ns g).2.flatMap (ndO 3)⟩], ctr + 1, low⟩) :
    CallB Tryz.prog 91 ⟨env, rows, ctr, low⟩ [.agg [.sl c xss.length (xss.map (slI c)), .sl c ns.length (ns.flatMap (ndC c))], .int .i64 g] k := callEB_in withoutNode_sound (c, xss, ns, g) ⟨hE, hM, hg⟩ h
end Go.Proofs.YtjmdhfjemaoebaaGreat
namespace Go.Am
open Go.RowKit
theorem node_set {t : TypeId} {ns : List Nd} {p : Nat} (h : p < ns.length) (us : List AV) (hu : us.length = 4) : (ns.flatMap (ndO t)).take (p * 4) ++ (us ++ (ns.flatMap (ndO t)).drop (p * 4 + us.length)) = (ns.take p).flatMap (ndO t) ++ (us ++ (ns.drop (p + 1)).flatMap (ndO t)) := by
  have e1 : ns.flatMap (ndO t) = (ns.take p).flatMap (ndO t) ++ (ns.drop p).flatMap (ndO t) := by
    conv => lhs; rw [← List.take_append_drop p ns]
    rw [List.flatMap_append]
  have l1 : ((ns.take p).flatMap (ndO t)).length = p * 4 := by rw [flat_len (ndO_length t), List.length_take, Nat.min_eq_left (Nat.le_of_lt h)]
  have e2 : (ns.flatMap (ndO t)).drop (p * 4) = ndO t (ns.getD p default) ++ (ns.drop (p + 1)).flatMap (ndO t) := flat_drop (ndO_length t) default ns p h
  have e3 : (ns.flatMap (ndO t)).drop (p * 4 + us.length) = (ns.drop (p + 1)).flatMap (ndO t) := by
    rw [hu, ← List.drop_drop, e2, List.drop_left' (by rw [ndO_length])]
  rw [e3]
  congr 1
  rw [e1, List.take_left' l1]
theorem set_nodeN {t : TypeId} {ns : List Nd} {p o : Nat} {a b c u : AV} {K : List AV → Prop} (ho : o = p * 4) (h : p < ns.length) (hK : K ((ns.take p).flatMap (ndO t) ++ ([a, b, c, u] ++ (ns.drop (p + 1)).flatMap (ndO t)))) : aSet (ns.flatMap (ndO t)) o [a, b, c, u] K := by
  subst ho
  unfold aSet
  rw [node_set h _ rfl]; exact hK
theorem fit_node {t : TypeId} {ns : List Nd} {p o : Nat} (ho : o = p * 4) (h : p < ns.length) : o + 4 ≤ (ns.flatMap (ndO t)).length := by
  rw [flat_len (ndO_length t)]; omega
theorem get_nodeS {t : TypeId} {ns : List Nd} {p o : Nat} {a b c u : AV} {B : List AV} (ho : o = p * 4 + 3) (h : p < ns.length) : ((ns.take p).flatMap (ndO t) ++ ([a, b, c, u] ++ B))[o]? = some u := by
  subst ho
  have e : ((ns.take p).flatMap (ndO t)).length = p * 4 := by rw [flat_len (ndO_length t), List.length_take, Nat.min_eq_left (Nat.le_of_lt h)]
  rw [List.getElem?_append_right (by omega), e, Nat.add_sub_cancel_left]; rfl
theorem close_nodeS {t : TypeId} {ns : List Nd} {n : Nd} {p o : Nat} {u x : AV} (ho : o = p * 4 + 3) (h : p < ns.length) (hx : x = ownI t n.l) : ((ns.take p).flatMap (ndO t) ++ ([.int .i64 n.op, .int .i64 n.a, .int .i64 n.b, u] ++ (ns.drop (p + 1)).flatMap (ndO t))).set o x = (ns.set p n).flatMap (ndO t) := by
  subst ho; subst hx
  have e : ((ns.take p).flatMap (ndO t)).length = p * 4 := by rw [flat_len (ndO_length t), List.length_take, Nat.min_eq_left (Nat.le_of_lt h)]
  have e2 : ns.set p n = ns.take p ++ (n :: ns.drop (p + 1)) := by rw [List.set_eq_take_append_cons_drop, if_pos h]
  rw [List.set_append_right _ _ (by omega), e, Nat.add_sub_cancel_left, e2, List.flatMap_append, List.flatMap_cons]
  rfl
end Go.Am
namespace Go.Proofs.YtjmdhfjemaoebaaGreat
set_option maxRecDepth 20000
open Go.RowKit Go.Am
set_option linter.unusedSimpArgs false
attribute [local irreducible] aPlan aGet aIf aLoop aCall RetB NextB CallB CallG aCut aSet aAppend
def cdO (xss : List (List Int)) (ns : List Nd) (ch p : Int) : Option (List Nd) :=
  if (shM xss ns).2 = true ∧ 0 ≤ p ∧ p < ns.length then (if ch = 0 then (if drP xss ns p.toNat then some (dropN ns p.toNat) else none) else (cX ns (shM xss ns).1 ch p.toNat).map (fun n => ns.set p.toNat n)) else none
def cdE (xss : List (List Int)) (ns : List Nd) (ch p : Int) : Ex := match cdO xss ns ch p with | some L => (xss, L) | none => ([], [])
def sChangeDo (c1 : Bool) : CSpec := fnEB (ι := Nat × List (List Int) × List Nd × Int × Int) 3 38 75 (fun | (c, xss, ns, ch, p) => [.agg [.sl c xss.length (xss.map (slI c)), .sl c ns.length (ns.flatMap (ndC c))], .int .i64 ch, .int .i64 p]) (fun | (c, _, ns, _, _) => eP ns ∧ (c1 = true → c = 1)) (fun | (_, xss, ns, ch, p) => cdE xss ns ch p) (fun | (_, xss, ns, ch, p) => (cdO xss ns ch p).isSome)
theorem cdE_n {xss : List (List Int)} {ns : List Nd} {ch p : Int} (h : cdO xss ns ch p = none) : cdE xss ns ch p = ([], []) := by unfold cdE; rw [h]
theorem cdE_s {xss : List (List Int)} {ns L : List Nd} {ch p : Int} (h : cdO xss ns ch p = some L) : cdE xss ns ch p = (xss, L) := by unfold cdE; rw [h]
theorem cdO_f {xss : List (List Int)} {ns : List Nd} {ch p : Int} (h : ¬ ((shM xss ns).2 = true ∧ 0 ≤ p ∧ p < ns.length)) : cdO xss ns ch p = none := if_neg h
theorem cdO_0 {xss : List (List Int)} {ns : List Nd} {q : Nat} (hM : (shM xss ns).2 = true) (hq : q < ns.length) : cdO xss ns 0 q = if drP xss ns q then some (dropN ns q) else none := by
  unfold cdO
  rw [if_pos ⟨hM, by omega, by omega⟩, if_pos rfl, Int.toNat_natCast]
theorem cdO_c {xss : List (List Int)} {ns : List Nd} {ch : Int} {q : Nat} (hM : (shM xss ns).2 = true) (hq : q < ns.length) (hc : ch ≠ 0) : cdO xss ns ch q = (cX ns (shM xss ns).1 ch q).map (fun n => ns.set q n) := by
  unfold cdO
  rw [if_pos ⟨hM, by omega, by omega⟩, if_neg hc, Int.toNat_natCast]
theorem ExI.cpP {xss ss : List (List Int)} {ns : List Nd} (h : ExI xss ns ss) : cpP xss ns := by
  obtain ⟨h1, h2⟩ := h.ins3
  exact ⟨⟨by omega, fun k hk => by have := h2 k hk; omega⟩, by have := h.n12; omega, fun k hk => by have := h.l3 hk; omega⟩
theorem nodeChanged_callN {c d p : Nat} {ch : Int} {xss ss : List (List Int)} {ns : List Nd} {n : Nd} {b : Bool} {env : List AV} {rows : List Row} {ctr low : Nat} {k : AV → St → Prop} (hX : ExI xss ns ss) (hp : p < ns.length) (hn : (cX ns ss ch p).getD default = n) (hb : (cX ns ss ch p).isSome = b) (h : k (.tup [.agg [.int .i64 n.op, .int .i64 n.a, .int .i64 n.b, .ref rows.length ctr 0 n.l.length], .bool b]) ⟨env, rows ++ [⟨ctr, 3, 1, n.l.map (.int .i64)⟩], ctr + 1, low⟩) :
    CallB Tryz.prog 89 ⟨env, rows, ctr, low⟩ [.sl c ns.length (ns.flatMap (ndC c)), .sl d ss.length (ss.map (slI d)), .int .i64 ch, .int .i64 p] k := by
  subst hn; subst hb; exact nodeChanged_call hX hp h
set_option maxHeartbeats 8000000 in
theorem iChangeDo_sound : Sound Tryz.prog 44 (sChangeDo false) := by
  refine sound_of Tryz.func44 rfl (enters_of Tryz.func44 (by kernel_rfl) (by kernel_rfl)) ?_
  rintro ⟨c, xss, ns, ch, p⟩ ⟨hE, -⟩
  have hE : eP ns := hE
  have hmax : maxLen = 9223372036854775807 := rfl
  by_cases hv : (shM xss ns).2 = true ∧ 0 ≤ p ∧ p < ns.length
  · obtain ⟨hM, hp⟩ := hv
    obtain ⟨q, rfl⟩ : ∃ q : Nat, p = q := ⟨p.toNat, by omega⟩
    have hq : q < ns.length := by omega
    have hX := exI_of hM
    have h12 := hX.n12
    by_cases hc : ch = 0
    · subst hc
      have hO := cdO_0 hM hq
      by_cases hd : drP xss ns q
      · have hO := hO.trans (if_pos hd)
        have hW : wnE xss ns q = (xss, dropN ns q) := if_pos hd
        have hb : decide (drP xss ns q) = (cdO xss ns 0 q).isSome := by rw [hO]; exact decide_eq_true hd
        have hE2 : cdE xss ns 0 q = wnE xss ns q := (cdE_s hO).trans hW.symm
        conv => whnf
        repeat' (first
          | ((first | refine aIf_t ?_ | refine aIf_f ?_ | refine fun (_ : _ ≤ maxLen) => ?_ | refine aGet_in rfl ?_ | refine And.intro (by omega) ?_ | refine load_same ?_ | refine And.intro rfl (And.intro (List.cons_ne_nil _ _) ?_) | refine And.intro (Nat.le_of_ble_eq_true rfl) ?_ | refine callG_t ?_ | refine indexOk_call trivial ?_ | refine append_same ?_ | refine And.intro (pureL_ii _ _) ?_ | refine And.intro (pureL_nd _ _) ?_ | refine iShapesOf_call (by assumption) ?_ | refine withoutNode_call (by assumption) (by assumption) (by omega) ?_ | refine takeN_in ?_ | refine set_force ?_ | refine And.intro (by kernel_rfl) ?_ | refine aIf_tt (by assumption) ?_); conv => whnf) | refine aIf_eqf ?_
          | refine aIf_not ?_ | (refine aIf_dec (fun _ => ?_) (fun _ => ?_) <;> conv => whnf))
        all_goals (first | (exfalso; omega) | contradiction | skip)
        all_goals exact retEB hE2 hb (by decide) rfl rfl rfl rfl rfl rfl
      · have hO := hO.trans (if_neg hd)
        have hW : wnE xss ns q = ([], []) := if_neg hd
        have hb : decide (drP xss ns q) = (cdO xss ns 0 q).isSome := by rw [hO]; exact decide_eq_false hd
        have hE2 : cdE xss ns 0 q = wnE xss ns q := (cdE_n hO).trans hW.symm
        conv => whnf
        repeat' (first
          | ((first | refine aIf_t ?_ | refine aIf_f ?_ | refine fun (_ : _ ≤ maxLen) => ?_ | refine aGet_in rfl ?_ | refine And.intro (by omega) ?_ | refine load_same ?_ | refine And.intro rfl (And.intro (List.cons_ne_nil _ _) ?_) | refine And.intro (Nat.le_of_ble_eq_true rfl) ?_ | refine callG_t ?_ | refine indexOk_call trivial ?_ | refine append_same ?_ | refine And.intro (pureL_ii _ _) ?_ | refine And.intro (pureL_nd _ _) ?_ | refine iShapesOf_call (by assumption) ?_ | refine withoutNode_call (by assumption) (by assumption) (by omega) ?_ | refine takeN_in ?_ | refine set_force ?_ | refine And.intro (by kernel_rfl) ?_ | refine aIf_tt (by assumption) ?_); conv => whnf) | refine aIf_eqf ?_
          | refine aIf_not ?_ | (refine aIf_dec (fun _ => ?_) (fun _ => ?_) <;> conv => whnf))
        all_goals (first | (exfalso; omega) | contradiction | skip)
        all_goals exact retEB hE2 hb (by decide) rfl rfl rfl rfl rfl rfl
    · have hO := cdO_c hM hq hc
      cases hn : cX ns (shM xss ns).1 ch q with
      | none =>
        have hO : cdO xss ns ch q = none := by rw [hO, hn]; rfl
        have hs : (cX ns (shM xss ns).1 ch q).isSome = false := by rw [hn]; rfl
        conv => whnf
        repeat' (first
          | ((first | refine aIf_t ?_ | refine aIf_f ?_ | refine fun (_ : _ ≤ maxLen) => ?_ | refine aGet_in rfl ?_ | refine And.intro (by omega) ?_ | refine load_same ?_ | refine And.intro rfl (And.intro (List.cons_ne_nil _ _) ?_) | refine And.intro (Nat.le_of_ble_eq_true rfl) ?_ | refine callG_t ?_ | refine indexOk_call trivial ?_ | refine append_same ?_ | refine And.intro (pureL_ii _ _) ?_ | refine And.intro (pureL_nd _ _) ?_ | refine cut_ii rfl ?_ | refine iShapesOf_call (by assumption) ?_ | refine withoutNode_call (by assumption) (by assumption) (by omega) ?_ | refine nodeChanged_call (by assumption) (by omega) ?_ | refine takeN_in ?_ | refine set_force ?_ | refine And.intro (by kernel_rfl) ?_ | refine aIf_tt (by assumption) ?_ | refine aIf_ff (by assumption) ?_); conv => whnf) | refine aIf_eqf ?_
          | refine aIf_not ?_ | (refine aIf_dec (fun _ => ?_) (fun _ => ?_) <;> conv => whnf))
        all_goals (first | (exfalso; omega) | contradiction | skip)
        all_goals exact retEB (cdE_n hO) (congrArg Option.isSome hO).symm (by decide) rfl rfl rfl rfl rfl rfl
      | some n =>
        have hO : cdO xss ns ch q = some (ns.set q n) := by rw [hO, hn]; rfl
        have hs : (cX ns (shM xss ns).1 ch q).isSome = true := by rw [hn]; rfl
        have hg : (cX ns (shM xss ns).1 ch q).getD default = n := by rw [hn]; rfl
        have hcp := hX.cpP
        conv => whnf
        repeat' (first
          | ((first | refine nodeChanged_callN hX hq hg hs ?_ | refine set_nodeN (p := q) (by simp) hq ?_ | refine And.intro (fit_node (p := q) (by simp) hq) ?_ | refine aIf_t ?_ | refine aIf_f ?_ | refine fun (_ : _ ≤ maxLen) => ?_ | refine aGet_in rfl ?_ | refine And.intro (by omega) ?_ | refine load_same ?_ | refine And.intro rfl (And.intro (List.cons_ne_nil _ _) ?_) | refine And.intro (Nat.le_of_ble_eq_true rfl) ?_ | refine callG_t ?_ | refine indexOk_call trivial ?_ | refine append_same ?_ | refine And.intro (pureL_ii _ _) ?_ | refine And.intro (pureL_nd _ _) ?_ | refine cut_ii rfl ?_ | refine iShapesOf_call (by assumption) ?_ | refine copyExpr_call (by assumption) ?_ | refine withoutNode_call (by assumption) (by assumption) (by omega) ?_ | refine takeN_in ?_ | refine set_force ?_ | refine And.intro (by kernel_rfl) ?_ | refine aIf_tt (by assumption) ?_); conv => whnf) | refine aIf_eqf ?_
          | refine aIf_not ?_ | (refine aIf_dec (fun _ => ?_) (fun _ => ?_) <;> conv => whnf))
        all_goals (first | (exfalso; omega) | contradiction | skip)
        refine ret_close 9 (q * 4 + 3) 5 _ _ 1 3 _ _ rfl (get_nodeS rfl hq) rfl (by decide) (Nat.zero_le _) (by decide) (by simp) ?_
        exact retEB (cdE_s hO) (congrArg Option.isSome hO).symm (by decide) rfl rfl rfl (close_nodeS rfl hq rfl) rfl (by simp)
  · have hO := cdO_f (ch := ch) hv
    cases hM : (shM xss ns).2 with
    | false =>
      conv => whnf
      repeat' (first
        | ((first | refine aIf_t ?_ | refine aIf_f ?_ | refine aGet_in rfl ?_ | refine load_same ?_ | refine And.intro rfl (And.intro (List.cons_ne_nil _ _) ?_) | refine And.intro (Nat.le_of_ble_eq_true rfl) ?_ | refine callG_t ?_ | refine append_same ?_ | refine And.intro (pureL_ii _ _) ?_ | refine And.intro (pureL_nd _ _) ?_ | refine iShapesOf_call (by assumption) ?_ | refine takeN_in ?_ | refine set_force ?_ | refine And.intro (by kernel_rfl) ?_ | refine aIf_ff (by assumption) ?_); conv => whnf) | refine aIf_eqf ?_
        | refine aIf_not ?_)
      all_goals (first | (exfalso; omega) | contradiction | skip)
      all_goals exact retEB (cdE_n hO) (congrArg Option.isSome hO).symm (by decide) rfl rfl rfl rfl rfl rfl
    | true =>
      have hp : ¬ (0 ≤ p ∧ p < ns.length) := fun h => hv ⟨hM, h⟩
      conv => whnf
      repeat' (first
        | ((first | refine aIf_t ?_ | refine aIf_f ?_ | refine fun (_ : _ ≤ maxLen) => ?_ | refine aGet_in rfl ?_ | refine And.intro (by omega) ?_ | refine load_same ?_ | refine And.intro rfl (And.intro (List.cons_ne_nil _ _) ?_) | refine And.intro (Nat.le_of_ble_eq_true rfl) ?_ | refine callG_t ?_ | refine indexOk_call trivial ?_ | refine append_same ?_ | refine And.intro (pureL_ii _ _) ?_ | refine And.intro (pureL_nd _ _) ?_ | refine cut_ii rfl ?_ | refine iShapesOf_call (by assumption) ?_ | refine takeN_in ?_ | refine set_force ?_ | refine And.intro (by kernel_rfl) ?_ | refine aIf_tt (by assumption) ?_); conv => whnf) | refine aIf_eqf ?_
        | refine aIf_not ?_ | (refine aIf_dec (fun _ => ?_) (fun _ => ?_) <;> conv => whnf))
      all_goals (first | (exfalso; omega) | contradiction | skip)
      all_goals exact retEB (cdE_n hO) (congrArg Option.isSome hO).symm (by decide) rfl rfl rfl rfl rfl rfl
theorem iChangeDo_call {c : Nat} {ch p : Int} {xss : List (List Int)} {ns : List Nd} {env : List AV} {rows : List Row} {ctr low : Nat} {k : AV → St → Prop} (hE : eP ns)
    (h : k (.tup [.agg [.ref rows.length ctr 0 (cdE xss ns ch p).1.length, .ref (rows.length + 1) ctr 0 (cdE xss ns ch p).2.length], .bool (cdO xss ns ch p).isSome]) ⟨env, rows ++ [⟨ctr, 38, 1, (cdE xss ns ch p).1.map (ownI 3)⟩, ⟨ctr, 75, 4, (cdE xss ns ch p).2.flatMap (ndO 3)⟩], ctr + 1, low⟩) :
    CallB Tryz.prog 44 ⟨env, rows, ctr, low⟩ [.agg [.sl c xss.length (xss.map (slI c)), .sl c ns.length (ns.flatMap (ndC c))], .int .i64 ch, .int .i64 p] k := callEB_in iChangeDo_sound (c, xss, ns, ch, p) ⟨hE, fun h => Bool.noConfusion h⟩ h
end Go.Proofs.YtjmdhfjemaoebaaGreat
