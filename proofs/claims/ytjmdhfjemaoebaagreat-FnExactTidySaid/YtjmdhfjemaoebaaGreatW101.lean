import Derived.Test.YtjmdhfjemaoebaaGreatM0x47
namespace Go.Am
open Go.RowKit
def ndSet (n : Nd) (j : Nat) (v : Int) : Nd := match j with
  | 0 => ⟨v, n.a, n.b, n.l⟩
  | 1 => ⟨n.op, v, n.b, n.l⟩
  | _ => ⟨n.op, n.a, v, n.l⟩
theorem ndSet_l (n : Nd) (j : Nat) (v : Int) : (ndSet n j v).l = n.l := by
  unfold ndSet; split <;> rfl
theorem ndSet_ok (t : TypeId) (n : Nd) (v : Int) : ∀ j, j < 3 → ndO t (ndSet n j v) = (ndO t n).set j (.int .i64 v)
  | 0, _ => rfl
  | 1, _ => rfl
  | 2, _ => rfl
theorem set_ndX {t : TypeId} {k j : Nat} {v : Int} {L : List Nd} {K : List AV → Prop} (h : k < L.length) (hj : j < 3) (hK : ∀ L' : List Nd, L'.length = L.length → (L'.getD k default).l.length = (L.getD k default).l.length → L' = L.set k (ndSet (L.getD k default) j v) → K (L'.flatMap (ndO t))) : aSet (L.flatMap (ndO t)) (0 + (k : Int).toNat * 4 + j) [.int .i64 v] K := by
  refine set_one (by have := ond_fit (t := t) (j := j) h (by omega); omega) ?_
  rw [flat_set (ndO_length t) default (by rw [Nat.zero_add, Int.toNat_natCast]) h (by omega) (ndSet_ok t _ v j hj)]
  refine hK _ (by simp) ?_ rfl
  rw [getD_setG h, if_pos rfl, ndSet_l]
end Go.Am
namespace Go.Proofs.YtjmdhfjemaoebaaGreat
set_option maxRecDepth 20000
open Go.RowKit Go.Am
set_option linter.unusedSimpArgs false
attribute [local irreducible] aPlan aGet aIf aLoop aCall RetB NextB CallB CallG aCut aSet aAppend
def marksN (m : Int) : List Nd → List Nd
  | [] => []
  | n :: ns => ⟨m, m + 1, m + 2, marks (m + 3) n.l.length⟩ :: marksN (m + 3 + n.l.length) ns
theorem marksN_length : ∀ (m : Int) (ns : List Nd), (marksN m ns).length = ns.length
  | _, [] => rfl
  | m, n :: ns => by simp [marksN, marksN_length]
def mkN (m : Int) (n : Nat) : Nd := ⟨m, m + 1, m + 2, marks (m + 3) n⟩
theorem marksN_getD : ∀ (m : Int) (ns : List Nd) (k : Nat), k < ns.length → (marksN m ns).getD k default = mkN (m + 3 * k + ntot (ns.take k)) (ns.getD k default).l.length
  | m, n :: ns, 0, _ => by simp [marksN, mkN, ntot]
  | m, n :: ns, k + 1, h => by
    have h' : k < ns.length := by simpa using h
    have := marksN_getD (m + 3 + n.l.length) ns k h'
    show (marksN (m + 3 + n.l.length) ns).getD k default = mkN (m + 3 * ((k + 1 : Nat) : Int) + ntot (n :: ns.take k)) (ns.getD k default).l.length
    rw [this]
    have e : ntot (n :: ns.take k) = n.l.length + ntot (ns.take k) := by simp [ntot]
    rw [e]; congr 1; omega
def sMarkNX : CSpec := fnMR (ι := List Nd × Int) 75 4 (fun x => x.1.length) (fun x => x.1.flatMap (ndO 3)) (fun x => x.2) (fun x => x.1.length ≤ 1048576 ∧ ntot x.1 ≤ 1048576 ∧ 0 ≤ x.2 ∧ x.2 ≤ 100000000000) (fun x => x.2 + 3 * x.1.length + ntot x.1) (fun x => (marksN x.2 x.1).flatMap (ndO 3))
set_option maxHeartbeats 4000000 in
theorem markNX_sound : Sound Tryz.prog 48 sMarkNX := by
  refine sound_of Tryz.func48 rfl (enters_of Tryz.func48 (by kernel_rfl) (by kernel_rfl)) ?_
  rintro ⟨ns, m⟩ hpre
  have hpre : ns.length ≤ 1048576 ∧ ntot ns ≤ 1048576 ∧ 0 ≤ m ∧ m ≤ 100000000000 := hpre
  have hmax : maxLen = 9223372036854775807 := rfl
  conv => whnf
  dsimp only
  repeat' (first
    | (refine append_same ?_; conv => whnf))
  refine loop_u (ι := Nat × List Nd) [true, true, false, false, false, true, false, false, false, false, false, false, false, false, false, false, false, false, false, false, false, false, false, false, false, false, false, false, false, false, false, false, false, false, false, false, false, false, false, false, false] (fun | (k, _) => [(1, .int .i64 (m + 3 * k + ntot (ns.take k))), (5, .int .i64 k)]) (fun | (_, L) => [(0, L.flatMap (ndO 3))]) (fun | (k, L) => k ≤ ns.length ∧ L.length = ns.length ∧ (∀ j, j < k → L.getD j default = (marksN m ns).getD j default) ∧ (∀ j, k ≤ j → L.getD j default = ns.getD j default)) (fun x => ns.length - x.1) ((0, ns)) ⟨Nat.zero_le _, rfl, fun j hj => absurd hj (Nat.not_lt_zero _), fun _ _ => rfl⟩ ?_ ?_
  · conv => whnf
    repeat' (first | exact int_eq (show m = m + 3 * ((0 : Nat) : Int) + ntot (ns.take 0) by simp [ntot]) | exact Or.inl (And.intro (pureL_ond _ _) rfl) | refine And.intro ?_ ?_)
    repeat' (first
      | exact trivial | exact rfl
      | exact Nat.le_of_ble_eq_true rfl)
  · rintro ⟨k, L⟩ ⟨hk, hL, h1, h2⟩
    have hk : k ≤ ns.length := hk
    have hL : L.length = ns.length := hL
    have h1 : ∀ j, j < k → L.getD j default = (marksN m ns).getD j default := h1
    have h2 : ∀ j, k ≤ j → L.getD j default = ns.getD j default := h2
    have ht' : ntot (ns.take k) ≤ ntot ns := sum_take_le (fun n : Nd => n.l.length) ns k
    by_cases hlt : k < ns.length
    · have e2 := h2 k (Nat.le_refl _)
      have hll : (L.getD k default).l.length = (ns.getD k default).l.length := by rw [e2]
      have hl := len_le_ntot hlt
      have hs := ntot_succ hlt
      have hw1 : IntKind.i64.wrap (m + 3 * (k : Int) + (ntot (ns.take k) : Int) + 1) = m + 3 * (k : Int) + (ntot (ns.take k) : Int) + 1 := IntWalk.i64_in _ (by omega)
      have hw2 : IntKind.i64.wrap (m + 3 * (k : Int) + (ntot (ns.take k) : Int) + 1 + 1) = m + 3 * (k : Int) + (ntot (ns.take k) : Int) + 2 := by rw [IntWalk.i64_in _ (by omega)]; omega
      have hw3 : IntKind.i64.wrap (m + 3 * (k : Int) + (ntot (ns.take k) : Int) + 2 + 1) = m + 3 * (k : Int) + (ntot (ns.take k) : Int) + 3 := by rw [IntWalk.i64_in _ (by omega)]; omega
      conv => whnf
      repeat' (first
        | (refine set_ndX (by omega) (Nat.le_of_ble_eq_true rfl) (fun _ _ _ _ => ?_); conv => whnf) | (rw [hw1]) | (rw [hw2]) | (rw [hw3]) | ((first | refine fun (_ : _ ≤ maxLen) => ?_ | refine And.intro (by omega) ?_ | refine mark_call rfl (by rfl) (by omega) ?_ | refine append_same ?_ | refine And.intro (ond_fit (by omega) (Nat.le_of_ble_eq_true rfl)) ?_ | refine get_ond_n (by omega) rfl ?_ | refine And.intro (by kernel_rfl) ?_); conv => whnf) | (refine aIf_dec (fun _ => ?_) (fun _ => ?_) <;> conv => whnf))
      all_goals (first | (exfalso; omega) | skip)
      rename_i L1 l1 k1 a1 L2 l2 k2 a2 L3 l3 k3 a3
      have a1 : L1 = L.set k (ndSet (L.getD k default) 0 (m + 3 * (k : Int) + (ntot (ns.take k) : Int))) := a1
      have a2 : L2 = L1.set k (ndSet (L1.getD k default) 1 (m + 3 * (k : Int) + (ntot (ns.take k) : Int) + 1)) := a2
      have a3 : L3 = L2.set k (ndSet (L2.getD k default) 2 (m + 3 * (k : Int) + (ntot (ns.take k) : Int) + 2)) := a3
      have q1 : L1.getD k default = ndSet (L.getD k default) 0 (m + 3 * (k : Int) + (ntot (ns.take k) : Int)) := by rw [a1, getD_setG (by omega), if_pos rfl]
      have q2 : L2.getD k default = ndSet (L1.getD k default) 1 (m + 3 * (k : Int) + (ntot (ns.take k) : Int) + 1) := by rw [a2, getD_setG (by omega), if_pos rfl]
      have q3 : L3.getD k default = ndSet (L2.getD k default) 2 (m + 3 * (k : Int) + (ntot (ns.take k) : Int) + 2) := by rw [a3, getD_setG (by omega), if_pos rfl]
      have qo : ∀ j, ¬ j = k → L3.getD j default = L.getD j default := fun j hj => by
        rw [a3, getD_setG (by omega), if_neg (by omega), a2, getD_setG (by omega), if_neg (by omega), a1, getD_setG (by omega), if_neg (by omega)]
      have q : (⟨(L3.getD k default).op, (L3.getD k default).a, (L3.getD k default).b, marks (m + 3 * (k : Int) + (ntot (ns.take k) : Int) + 3) (L3.getD k default).l.length⟩ : Nd) = (marksN m ns).getD k default := by
        rw [marksN_getD m ns k hlt, k3, k2, k1, hll, q3, q2, q1]; rfl
      refine next_ut (k + 1, L3.set k ⟨(L3.getD k default).op, (L3.getD k default).a, (L3.getD k default).b, marks (m + 3 * (k : Int) + (ntot (ns.take k) : Int) + 3) (L3.getD k default).l.length⟩) (show ns.length - (k + 1) < ns.length - k by omega) ⟨(by omega : k + 1 ≤ ns.length), (show (L3.set k _).length = _ by rw [List.length_set]; omega), fun j hj => ?_, fun j hj => ?_⟩ ?_
      · have hj : j < k + 1 := hj
        show (L3.set k _).getD j default = _
        rw [getD_setG (by omega)]
        split
        · rename_i e; rw [q, e]
        · rename_i e; rw [qo j (by omega)]; exact h1 j (by omega)
      · have hj : k + 1 ≤ j := hj
        show (L3.set k _).getD j default = _
        rw [getD_setG (by omega), if_neg (by omega), qo j (by omega)]
        exact h2 j (by omega)
      · conv => whnf
        refine to_close 0 (0 + (k : Int).toNat * 4 + 3) 1 1 _ 1 3 _ _ rfl (get_setF (by omega) (by decide)) rfl (by decide) (Nat.le_of_ble_eq_true rfl) (by decide) (by simp [marks_length]) ?_
        refine St.le.to ?_
        conv => whnf
        repeat' (first | exact le_setN (by omega) (own_marks _ _ _) | exact int_eq (show m + 3 * (k : Int) + (ntot (ns.take k) : Int) + 3 + ((L3.getD k default).l.length : Int) = m + 3 * ((k + 1 : Nat) : Int) + ntot (ns.take (k + 1)) by omega) | refine And.intro ?_ ?_)
        repeat' (first
          | exact trivial | exact rfl
          | exact Nat.le_of_ble_eq_true rfl | exact int_eq (by rw [IntWalk.i64_in _ (by omega)] <;> omega))
    · have e : k = ns.length := by omega
      have et := ntot_all e
      have eL : L = marksN m ns := getD_extG (d := default) (by rw [marksN_length]; exact hL) fun j hj => h1 j (by rw [marksN_length] at hj; omega)
      conv => whnf
      repeat' (first
        | ((first | refine fun (_ : _ ≤ maxLen) => ?_ | refine And.intro (by omega) ?_ | refine mark_call rfl (by rfl) (by omega) ?_ | refine append_same ?_ | refine set_ond (by omega) (Nat.le_of_ble_eq_true rfl) ⟨_, rfl⟩ (fun _ _ _ _ => ?_) | refine get_ond_n (by omega) rfl ?_); conv => whnf) | (refine aIf_dec (fun _ => ?_) (fun _ => ?_) <;> conv => whnf))
      all_goals (first | (exfalso; omega) | skip)
      exact retMR (protL_ond _ _) (by rw [et, e]) (by rw [eL])
theorem markNX_call {ns : List Nd} {m : Int} {env : List AV} {rows : List Row} {ctr low τ ver n : Nat} {k : AV → St → Prop} (hr : rows[τ]? = some ⟨ver, 75, 4, ns.flatMap (ndO 3)⟩) (hn : n = ns.length) (hpre : ns.length ≤ 1048576 ∧ ntot ns ≤ 1048576 ∧ 0 ≤ m ∧ m ≤ 100000000000)
    (hk : k (.int .i64 (m + 3 * ns.length + ntot ns)) ⟨env, setRows rows [τ] [(marksN m ns).flatMap (ndO 3)], ctr + 1, low⟩) : CallG Tryz.prog 48 ⟨env, rows, ctr, low⟩ [.ref τ ver 0 n, .int .i64 m] k :=
  callMR_in markNX_sound (ns, m) hpre (protL_ond _ _) (protL_ond _ _) hr hn rfl hk
def sMarkEX : CSpec := fnMR2 (ι := List (List Int) × List Nd × Int) 38 1 75 4 (fun x => x.1.length) (fun x => x.2.1.length) (fun x => x.1.map (ownI 3)) (fun x => x.2.1.flatMap (ndO 3)) (fun x => x.2.2) (fun x => eSize x.1 x.2.1 ≤ 1048576 ∧ 0 ≤ x.2.2 ∧ x.2.2 ≤ 1000000) (fun x => x.2.2 + tot x.1 + 3 * x.2.1.length + ntot x.2.1) (fun x => (marksII x.2.2 x.1).map (ownI 3)) (fun x => (marksN (x.2.2 + tot x.1) x.2.1).flatMap (ndO 3))
set_option maxHeartbeats 4000000 in
theorem markEX_sound : Sound Tryz.prog 13 sMarkEX := by
  refine sound_of Tryz.func13 rfl (enters_of Tryz.func13 (by kernel_rfl) (by kernel_rfl)) ?_
  rintro ⟨xss, ns, m⟩ hpre
  have hpre : xss.length + tot xss + (ns.length + ntot ns) ≤ 1048576 ∧ 0 ≤ m ∧ m ≤ 1000000 := hpre
  conv => whnf
  dsimp only
  repeat' (first
    | ((first | refine markNX_call rfl rfl (by omega) ?_ | refine aGet_in rfl ?_ | refine And.intro rfl (And.intro (List.cons_ne_nil _ _) ?_) | refine markII_call rfl rfl (by omega) ?_ | refine append_same ?_); conv => whnf))
  exact retMR2 (protL_oi _ _) (protL_ond _ _) rfl rfl rfl
theorem markEX_call {xss : List (List Int)} {ns : List Nd} {m : Int} {env : List AV} {rows : List Row} {ctr low τ1 τ2 v1 v2 n1 n2 : Nat} {k : AV → St → Prop} (h1 : rows[τ1]? = some ⟨v1, 38, 1, xss.map (ownI 3)⟩) (h2 : rows[τ2]? = some ⟨v2, 75, 4, ns.flatMap (ndO 3)⟩) (hne : τ1 ≠ τ2) (e1 : n1 = xss.length) (e2 : n2 = ns.length) (hpre : eSize xss ns ≤ 1048576 ∧ 0 ≤ m ∧ m ≤ 1000000)
    (hk : k (.int .i64 (m + tot xss + 3 * ns.length + ntot ns)) ⟨env, setRows rows [τ1, τ2] [(marksII m xss).map (ownI 3), (marksN (m + tot xss) ns).flatMap (ndO 3)], ctr + 1, low⟩) : CallG Tryz.prog 13 ⟨env, rows, ctr, low⟩ [.agg [.ref τ1 v1 0 n1, .ref τ2 v2 0 n2], .int .i64 m] k :=
  callMR2_in markEX_sound (xss, ns, m) hpre (protL_oi _ _) (protL_ond _ _) (protL_oi _ _) (protL_ond _ _) h1 h2 hne e1 e2 rfl hk
set_option maxHeartbeats 4000000 in
theorem heldNodeS_sound : Sound Tryz.prog 50 (fnS (ι := Nat × List Nd × Int) (fun | (c, ns, m) => [.sl c ns.length ((marksN m ns).flatMap (ndC c)), .int .i64 m]) (fun | (_, ns, m) => ns.length ≤ 1048576 ∧ ntot ns ≤ 1048576 ∧ 0 ≤ m ∧ m ≤ 100000000000) (fun | (_, ns, m) => .int .i64 (m + 3 * ns.length + ntot ns))) := by
  refine sound_of Tryz.func50 rfl (enters_of Tryz.func50 (by kernel_rfl) (by kernel_rfl)) ?_
  rintro ⟨c, ns, m⟩ hpre
  have hpre : ns.length ≤ 1048576 ∧ ntot ns ≤ 1048576 ∧ 0 ≤ m ∧ m ≤ 100000000000 := hpre
  have hmax : maxLen = 9223372036854775807 := rfl
  have hML := marksN_length m ns
  conv => whnf
  repeat' (first
    | (refine append_same ?_; conv => whnf))
  refine loop_u (ι := Nat) [true, true, false, false, false, true, false, false, false, false, false, false, false, false, false, false, false, false, false, false, false, false, false, false, false, false, false, false, false, false, false, false, false, false, false, false, false, false, false, false, false, false, false, false, false, false, false, false, false] (fun k => [(1, .int .i64 (m + 3 * k + ntot (ns.take k))), (5, .int .i64 k)]) (fun _ => []) (fun k => k ≤ ns.length) (fun k => ns.length - k) (0) (Nat.zero_le _) ?_ ?_
  · conv => whnf
    repeat' (first | exact int_eq (show m = m + 3 * ((0 : Nat) : Int) + ntot (ns.take 0) by simp [ntot]) | refine And.intro ?_ ?_)
    repeat' (first
      | exact trivial | exact rfl
      | exact pureL_nd _ _ | exact Nat.le_of_ble_eq_true rfl)
  · rintro k hk
    have hk : k ≤ ns.length := hk
    by_cases hlt : k < ns.length
    · have hg := marksN_getD m ns k hlt
      have hs := ntot_succ hlt
      have hl := len_le_ntot hlt
      have ht : ntot (ns.take (k + 1)) ≤ ntot ns := sum_take_le (fun n : Nd => n.l.length) ns (k + 1)
      have g1 : ((marksN m ns).getD k default).op = m + 3 * (k : Int) + (ntot (ns.take k) : Int) := by rw [hg]; rfl
      have g2 : ((marksN m ns).getD k default).a = m + 3 * (k : Int) + (ntot (ns.take k) : Int) + 1 := by rw [hg]; rfl
      have g3 : ((marksN m ns).getD k default).b = m + 3 * (k : Int) + (ntot (ns.take k) : Int) + 2 := by rw [hg]; rfl
      have g4 : ((marksN m ns).getD k default).l = marks (m + 3 * (k : Int) + (ntot (ns.take k) : Int) + 3) (ns.getD k default).l.length := by rw [hg]; rfl
      have hgl : ((marksN m ns).getD k default).l.length = (ns.getD k default).l.length := by rw [g4, marks_length]
      have hw1 : IntKind.i64.wrap (m + 3 * (k : Int) + (ntot (ns.take k) : Int) + 1) = m + 3 * (k : Int) + (ntot (ns.take k) : Int) + 1 := IntWalk.i64_in _ (by omega)
      have hw2 : IntKind.i64.wrap (m + 3 * (k : Int) + (ntot (ns.take k) : Int) + 1 + 1) = m + 3 * (k : Int) + (ntot (ns.take k) : Int) + 2 := by rw [IntWalk.i64_in _ (by omega)]; omega
      have hw3 : IntKind.i64.wrap (m + 3 * (k : Int) + (ntot (ns.take k) : Int) + 2 + 1) = m + 3 * (k : Int) + (ntot (ns.take k) : Int) + 3 := by rw [IntWalk.i64_in _ (by omega)]; omega
      conv => whnf
      repeat' (first
        | (rw [hw1]) | (rw [hw2]) | (rw [hw3]) | ((first | refine fun (_ : _ ≤ maxLen) => ?_ | refine And.intro (by omega) ?_ | refine callG_t ?_ | refine append_same ?_ | refine get_nd_n (by omega) rfl ?_ | refine And.intro (pureL_ints _ _) ?_); conv => whnf) | refine aIf_not ?_
        | (refine aIf_dec (fun _ => ?_) (fun _ => ?_) <;> conv => whnf))
      all_goals (first | (exfalso; omega) | skip)
      refine held_call (m := m + 3 * (k : Int) + (ntot (ns.take k) : Int) + 3) (by omega) ?_
      rw [if_pos (by rw [hgl]; exact g4), hgl]
      conv => whnf
      repeat' (first
        | (refine append_same ?_; conv => whnf) | (refine aIf_dec (fun _ => ?_) (fun _ => ?_) <;> conv => whnf))
      all_goals (first | (exfalso; omega) | skip)
      refine next_u (k + 1) (show ns.length - (k + 1) < ns.length - k by omega) (by exact (by omega : k + 1 ≤ ns.length)) ?_
      conv => whnf
      repeat' (first
        | exact trivial | exact rfl
        | exact pureL_nd _ _ | refine And.intro ?_ ?_
        | exact Nat.le_of_ble_eq_true rfl | exact int_eq (by omega)
        | exact int_eq (by rw [IntWalk.i64_in _ (by omega)] <;> omega))
      all_goals (first | exact int_eq (by omega) | skip)
    · have e := ntot_all (show k = ns.length by omega)
      conv => whnf
      repeat' (first
        | ((first | refine fun (_ : _ ≤ maxLen) => ?_ | refine And.intro (by omega) ?_ | refine callG_t ?_ | refine append_same ?_ | refine get_nd_n (by omega) rfl ?_); conv => whnf) | refine aIf_not ?_
        | (refine aIf_dec (fun _ => ?_) (fun _ => ?_) <;> conv => whnf))
      all_goals (first | (exfalso; omega) | skip)
      exact retS rfl (int_eq (by rw [e]; omega))
theorem cut_marksN {f : Nat} {t : TypeId} {ns : List Nd} {m : Int} {n : Nat} {k : List AV → Prop} (hn : n = ns.length) (hk : k ((marksN m ns).flatMap (ndC 0))) : aCut (f + 2) ((marksN m ns).flatMap (ndO t)) 0 (n * 4) k := cut_nd (by rw [hn, marksN_length]) hk
theorem heldNodeS_call {c n : Nat} {ns : List Nd} {m : Int} {env : List AV} {rows : List Row} {ctr low : Nat} {k : AV → St → Prop} (hn : n = ns.length) (hpre : ns.length ≤ 1048576 ∧ ntot ns ≤ 1048576 ∧ 0 ≤ m ∧ m ≤ 100000000000) (h : k (.int .i64 (m + 3 * ns.length + ntot ns)) ⟨env, rows, ctr + 1, low⟩) :
    CallB Tryz.prog 50 ⟨env, rows, ctr, low⟩ [.sl c n ((marksN m ns).flatMap (ndC c)), .int .i64 m] k := by
  subst hn
  exact callS_in heldNodeS_sound (c, ns, m) hpre rfl h
set_option maxHeartbeats 4000000 in
theorem heldExpr_sound : Sound Tryz.prog 14 (fnS (ι := Nat × List (List Int) × List Nd × Int) (fun | (c, xss, ns, m) => [.agg [.sl c xss.length ((marksII m xss).map (slI c)), .sl c ns.length ((marksN (m + tot xss) ns).flatMap (ndC c))], .int .i64 m]) (fun | (_, xss, ns, m) => eSize xss ns ≤ 1048576 ∧ 0 ≤ m ∧ m ≤ 1000000) (fun | (_, xss, ns, m) => .int .i64 (m + tot xss + 3 * ns.length + ntot ns))) := by
  refine sound_of Tryz.func14 rfl (enters_of Tryz.func14 (by kernel_rfl) (by kernel_rfl)) ?_
  rintro ⟨c, xss, ns, m⟩ hpre
  have hpre : xss.length + tot xss + (ns.length + ntot ns) ≤ 1048576 ∧ 0 ≤ m ∧ m ≤ 1000000 := hpre
  conv => whnf
  repeat' (first
    | ((first | refine aGet_in rfl ?_ | refine And.intro rfl (And.intro (List.cons_ne_nil _ _) ?_) | refine callG_t ?_ | refine append_same ?_ | refine And.intro (pureL_ii _ _) ?_ | refine And.intro (pureL_nd _ _) ?_ | refine heldIntSS_call rfl (by omega) ?_ | refine heldNodeS_call rfl (by omega) ?_); conv => whnf) | (refine aIf_dec (fun _ => ?_) (fun _ => ?_) <;> conv => whnf))
  all_goals (first | (exfalso; omega) | skip)
  exact retS rfl rfl
theorem heldExpr_call {c n1 n2 : Nat} {xss : List (List Int)} {ns : List Nd} {m : Int} {env : List AV} {rows : List Row} {ctr low : Nat} {k : AV → St → Prop} (e1 : n1 = xss.length) (e2 : n2 = ns.length) (hpre : eSize xss ns ≤ 1048576 ∧ 0 ≤ m ∧ m ≤ 1000000) (h : k (.int .i64 (m + tot xss + 3 * ns.length + ntot ns)) ⟨env, rows, ctr + 1, low⟩) :
    CallB Tryz.prog 14 ⟨env, rows, ctr, low⟩ [.agg [.sl c n1 ((marksII m xss).map (slI c)), .sl c n2 ((marksN (m + tot xss) ns).flatMap (ndC c))], .int .i64 m] k := by
  subst e1; subst e2
  exact callS_in heldExpr_sound (c, xss, ns, m) hpre rfl h
end Go.Proofs.YtjmdhfjemaoebaaGreat
