import Derived.Test.YtpbenelmklggcaaGreatM12x2
import Derived.Test.YtpbenelmklggcaaGreatM012x28
import Derived.Test.YtpbenelmklggcaaGreatM12x1
import Derived.Test.YtpbenelmklggcaaGreatM012x26
import Derived.Test.YtpbenelmklggcaaGreatM012x29
namespace Go.Am
open Go.RowKit
theorem node_set {t : TypeId} {ns : List Nd} {p : Nat} (h : p < ns.length) (us : List AV) (hu : us.length = 4) : (ns.flatMap (ndO t)).take (p * 4) ++ (us ++ (ns.flatMap (ndO t)).drop (p * 4 + us.length)) = (ns.take p).flatMap (ndO t) ++ (us ++ (ns.drop (p + 1)).flatMap (ndO t)) := by
  have e1 : ns.flatMap (ndO t) = (ns.take p).flatMap (ndO t) ++ (ns.drop p).flatMap (ndO t) := by
    conv => lhs; rw [← List.take_append_drop p ns]
    rw [List.flatMap_append]
  have l1 : ((ns.take p).flatMap (ndO t)).length = p * 4 := by rw [flat_len (ndO_length t), List.length_take, Nat.min_eq_left (Nat.le_of_lt h)]
  have e2 : (ns.flatMap (ndO t)).drop (p * 4) = ndO t (ns.getD p default) ++ (ns.drop (p + 1)).flatMap (ndO t) := flat_drop (ndO_length t) default ns p h
  have e3 : (ns.flatMap (ndO t)).drop (p * 4 + us.length) = (ns.drop (p + 1)).flatMap (ndO t) := by
    rw [hu, ← List.drop_drop, e2, List.drop_left' (by rw [ndO_length])]
  rw [e3]
  congr 1
  rw [e1, List.take_left' l1]
theorem set_nodeN {t : TypeId} {ns : List Nd} {p o : Nat} {a b c u : AV} {K : List AV → Prop} (ho : o = p * 4) (h : p < ns.length) (hK : K ((ns.take p).flatMap (ndO t) ++ ([a, b, c, u] ++ (ns.drop (p + 1)).flatMap (ndO t)))) : aSet (ns.flatMap (ndO t)) o [a, b, c, u] K := by
  subst ho
  unfold aSet
  rw [node_set h _ rfl]; exact hK
theorem fit_node {t : TypeId} {ns : List Nd} {p o : Nat} (ho : o = p * 4) (h : p < ns.length) : o + 4 ≤ (ns.flatMap (ndO t)).length := by
  rw [flat_len (ndO_length t)]; omega
theorem get_nodeS {t : TypeId} {ns : List Nd} {p o : Nat} {a b c u : AV} {B : List AV} (ho : o = p * 4 + 3) (h : p < ns.length) : ((ns.take p).flatMap (ndO t) ++ ([a, b, c, u] ++ B))[o]? = some u := by
  subst ho
  have e : ((ns.take p).flatMap (ndO t)).length = p * 4 := by rw [flat_len (ndO_length t), List.length_take, Nat.min_eq_left (Nat.le_of_lt h)]
  rw [List.getElem?_append_right (by omega), e, Nat.add_sub_cancel_left]; rfl
theorem close_nodeS {t : TypeId} {ns : List Nd} {n : Nd} {p o : Nat} {u x : AV} (ho : o = p * 4 + 3) (h : p < ns.length) (hx : x = ownI t n.l) : ((ns.take p).flatMap (ndO t) ++ ([.int .i64 n.op, .int .i64 n.a, .int .i64 n.b, u] ++ (ns.drop (p + 1)).flatMap (ndO t))).set o x = (ns.set p n).flatMap (ndO t) := by
  subst ho; subst hx
  have e : ((ns.take p).flatMap (ndO t)).length = p * 4 := by rw [flat_len (ndO_length t), List.length_take, Nat.min_eq_left (Nat.le_of_lt h)]
  have e2 : ns.set p n = ns.take p ++ (n :: ns.drop (p + 1)) := by rw [List.set_eq_take_append_cons_drop, if_pos h]
  rw [List.set_append_right _ _ (by omega), e, Nat.add_sub_cancel_left, e2, List.flatMap_append, List.flatMap_cons]
  rfl
end Go.Am
namespace Go.Proofs.YtpbenelmklggcaaGreat
set_option maxRecDepth 20000
open Go.RowKit Go.Am
set_option linter.unusedSimpArgs false
attribute [local irreducible] aPlan aGet aIf aLoop aCall RetB NextB CallB CallG aCut aSet aAppend
def cdO (xss : List (List Int)) (ns : List Nd) (ch p : Int) : Option (List Nd) :=
  if (shM xss ns).2 = true ∧ 0 ≤ p ∧ p < ns.length then (if ch = 0 then (if drP xss ns p.toNat then some (dropN ns p.toNat) else none) else (cX ns (shM xss ns).1 ch p.toNat).map (fun n => ns.set p.toNat n)) else none
def cdE (xss : List (List Int)) (ns : List Nd) (ch p : Int) : Ex := match cdO xss ns ch p with | some L => (xss, L) | none => ([], [])
def sChangeDo (c1 : Bool) : CSpec := fnEB (ι := Nat × List (List Int) × List Nd × Int × Int) 3 46 48 (fun | (c, xss, ns, ch, p) => [.agg [.sl c xss.length (xss.map (slI c)), .sl c ns.length (ns.flatMap (ndC c))], .int .i64 ch, .int .i64 p]) (fun | (c, _, ns, _, _) => eP ns ∧ (c1 = true → c = 1)) (fun | (_, xss, ns, ch, p) => cdE xss ns ch p) (fun | (_, xss, ns, ch, p) => (cdO xss ns ch p).isSome)
theorem cdE_n {xss : List (List Int)} {ns : List Nd} {ch p : Int} (h : cdO xss ns ch p = none) : cdE xss ns ch p = ([], []) := by unfold cdE; rw [h]
theorem cdE_s {xss : List (List Int)} {ns L : List Nd} {ch p : Int} (h : cdO xss ns ch p = some L) : cdE xss ns ch p = (xss, L) := by unfold cdE; rw [h]
theorem cdO_f {xss : List (List Int)} {ns : List Nd} {ch p : Int} (h : ¬ ((shM xss ns).2 = true ∧ 0 ≤ p ∧ p < ns.length)) : cdO xss ns ch p = none := if_neg h
theorem cdO_0 {xss : List (List Int)} {ns : List Nd} {q : Nat} (hM : (shM xss ns).2 = true) (hq : q < ns.length) : cdO xss ns 0 q = if drP xss ns q then some (dropN ns q) else none := by
  unfold cdO
  rw [if_pos ⟨hM, by omega, by omega⟩, if_pos rfl, Int.toNat_natCast]
theorem cdO_c {xss : List (List Int)} {ns : List Nd} {ch : Int} {q : Nat} (hM : (shM xss ns).2 = true) (hq : q < ns.length) (hc : ch ≠ 0) : cdO xss ns ch q = (cX ns (shM xss ns).1 ch q).map (fun n => ns.set q n) := by
  unfold cdO
  rw [if_pos ⟨hM, by omega, by omega⟩, if_neg hc, Int.toNat_natCast]
theorem ExI.cpP {xss ss : List (List Int)} {ns : List Nd} (h : ExI xss ns ss) : cpP xss ns := by
  obtain ⟨h1, h2⟩ := h.ins3
  exact ⟨⟨by omega, fun k hk => by have := h2 k hk; omega⟩, by have := h.n12; omega, fun k hk => by have := h.l3 hk; omega⟩
theorem nodeChanged_callN {c d p : Nat} {ch : Int} {xss ss : List (List Int)} {ns : List Nd} {n : Nd} {b : Bool} {env : List AV} {rows : List Row} {ctr low : Nat} {k : AV → St → Prop} (hX : ExI xss ns ss) (hp : p < ns.length) (hn : (cX ns ss ch p).getD default = n) (hb : (cX ns ss ch p).isSome = b) (h : k (.tup [.agg [.int .i64 n.op, .int .i64 n.a, .int .i64 n.b, .ref rows.length ctr 0 n.l.length], .bool b]) ⟨env, rows ++ [⟨ctr, 3, 1, n.l.map (.int .i64)⟩], ctr + 1, low⟩) :
    CallB Tryz.prog 32 ⟨env, rows, ctr, low⟩ [.sl c ns.length (ns.flatMap (ndC c)), .sl d ss.length (ss.map (slI d)), .int .i64 ch, .int .i64 p] k := by
  subst hn; subst hb; exact nodeChanged_call hX hp h
set_option maxHeartbeats 8000000 in
theorem iChangeDo_sound : Sound Tryz.prog 9 (sChangeDo false) := by
  refine sound_of Tryz.func9 rfl (enters_of Tryz.func9 (by kernel_rfl) (by kernel_rfl)) ?_
  rintro ⟨c, xss, ns, ch, p⟩ ⟨hE, -⟩
  have hE : eP ns := hE
  have hmax : maxLen = 9223372036854775807 := rfl
  by_cases hv : (shM xss ns).2 = true ∧ 0 ≤ p ∧ p < ns.length
  · obtain ⟨hM, hp⟩ := hv
    obtain ⟨q, rfl⟩ : ∃ q : Nat, p = q := ⟨p.toNat, by omega⟩
    have hq : q < ns.length := by omega
    have hX := exI_of hM
    have h12 := hX.n12
    by_cases hc : ch = 0
    · subst hc
      have hO := cdO_0 hM hq
      by_cases hd : drP xss ns q
      · have hO := hO.trans (if_pos hd)
        have hW : wnE xss ns q = (xss, dropN ns q) := if_pos hd
        have hb : decide (drP xss ns q) = (cdO xss ns 0 q).isSome := by rw [hO]; exact decide_eq_true hd
        have hE2 : cdE xss ns 0 q = wnE xss ns q := (cdE_s hO).trans hW.symm
        conv => whnf
        repeat' (first
          | ((first | refine aIf_t ?_ | refine aIf_f ?_ | refine fun (_ : _ ≤ maxLen) => ?_ | refine aGet_in rfl ?_ | refine And.intro (by omega) ?_ | refine load_same ?_ | refine And.intro rfl (And.intro (List.cons_ne_nil _ _) ?_) | refine And.intro (Nat.le_of_ble_eq_true rfl) ?_ | refine callG_t ?_ | refine indexOk_call trivial ?_ | refine append_same ?_ | refine And.intro (pureL_ii _ _) ?_ | refine And.intro (pureL_nd _ _) ?_ | refine iShapesOf_call (by assumption) ?_ | refine withoutNode_call (by assumption) (by assumption) (by omega) ?_ | refine takeN_in ?_ | refine set_force ?_ | refine And.intro (by kernel_rfl) ?_ | refine aIf_tt (by assumption) ?_); conv => whnf) | refine aIf_eqf ?_
          | refine aIf_not ?_ | (refine aIf_dec (fun _ => ?_) (fun _ => ?_) <;> conv => whnf))
        all_goals (first | (exfalso; omega) | contradiction | skip)
        all_goals exact retEB hE2 hb (by decide) rfl rfl rfl rfl rfl rfl
      · have hO := hO.trans (if_neg hd)
        have hW : wnE xss ns q = ([], []) := if_neg hd
        have hb : decide (drP xss ns q) = (cdO xss ns 0 q).isSome := by rw [hO]; exact decide_eq_false hd
        have hE2 : cdE xss ns 0 q = wnE xss ns q := (cdE_n hO).trans hW.symm
        conv => whnf
        repeat' (first
          | ((first | refine aIf_t ?_ | refine aIf_f ?_ | refine fun (_ : _ ≤ maxLen) => ?_ | refine aGet_in rfl ?_ | refine And.intro (by omega) ?_ | refine load_same ?_ | refine And.intro rfl (And.intro (List.cons_ne_nil _ _) ?_) | refine And.intro (Nat.le_of_ble_eq_true rfl) ?_ | refine callG_t ?_ | refine indexOk_call trivial ?_ | refine append_same ?_ | refine And.intro (pureL_ii _ _) ?_ | refine And.intro (pureL_nd _ _) ?_ | refine iShapesOf_call (by assumption) ?_ | refine withoutNode_call (by assumption) (by assumption) (by omega) ?_ | refine takeN_in ?_ | refine set_force ?_ | refine And.intro (by kernel_rfl) ?_ | refine aIf_tt (by assumption) ?_); conv => whnf) | refine aIf_eqf ?_
          | refine aIf_not ?_ | (refine aIf_dec (fun _ => ?_) (fun _ => ?_) <;> conv => whnf))
        all_goals (first | (exfalso; omega) | contradiction | skip)
        all_goals exact retEB hE2 hb (by decide) rfl rfl rfl rfl rfl rfl
    · have hO := cdO_c hM hq hc
      cases hn : cX ns (shM xss ns).1 ch q with
      | none =>
        have hO : cdO xss ns ch q = none := by rw [hO, hn]; rfl
        have hs : (cX ns (shM xss ns).1 ch q).isSome = false := by rw [hn]; rfl
        conv => whnf
        repeat' (first
          | ((first | refine aIf_t ?_ | refine aIf_f ?_ | refine fun (_ : _ ≤ maxLen) => ?_ | refine aGet_in rfl ?_ | refine And.intro (by omega) ?_ | refine load_same ?_ | refine And.intro rfl (And.intro (List.cons_ne_nil _ _) ?_) | refine And.intro (Nat.le_of_ble_eq_true rfl) ?_ | refine callG_t ?_ | refine indexOk_call trivial ?_ | refine append_same ?_ | refine And.intro (pureL_ii _ _) ?_ | refine And.intro (pureL_nd _ _) ?_ | refine cut_ii rfl ?_ | refine iShapesOf_call (by assumption) ?_ | refine withoutNode_call (by assumption) (by assumption) (by omega) ?_ | refine nodeChanged_call (by assumption) (by omega) ?_ | refine takeN_in ?_ | refine set_force ?_ | refine And.intro (by kernel_rfl) ?_ | refine aIf_tt (by assumption) ?_ | refine aIf_ff (by assumption) ?_); conv => whnf) | refine aIf_eqf ?_
          | refine aIf_not ?_ | (refine aIf_dec (fun _ => ?_) (fun _ => ?_) <;> conv => whnf))
        all_goals (first | (exfalso; omega) | contradiction | skip)
        all_goals exact retEB (cdE_n hO) (congrArg Option.isSome hO).symm (by decide) rfl rfl rfl rfl rfl rfl
      | some n =>
        have hO : cdO xss ns ch q = some (ns.set q n) := by rw [hO, hn]; rfl
        have hs : (cX ns (shM xss ns).1 ch q).isSome = true := by rw [hn]; rfl
        have hg : (cX ns (shM xss ns).1 ch q).getD default = n := by rw [hn]; rfl
        have hcp := hX.cpP
        conv => whnf
        repeat' (first
          | ((first | refine nodeChanged_callN hX hq hg hs ?_ | refine set_nodeN (p := q) (by simp) hq ?_ | refine And.intro (fit_node (p := q) (by simp) hq) ?_ | refine aIf_t ?_ | refine aIf_f ?_ | refine fun (_ : _ ≤ maxLen) => ?_ | refine aGet_in rfl ?_ | refine And.intro (by omega) ?_ | refine load_same ?_ | refine And.intro rfl (And.intro (List.cons_ne_nil _ _) ?_) | refine And.intro (Nat.le_of_ble_eq_true rfl) ?_ | refine callG_t ?_ | refine indexOk_call trivial ?_ | refine append_same ?_ | refine And.intro (pureL_ii _ _) ?_ | refine And.intro (pureL_nd _ _) ?_ | refine cut_ii rfl ?_ | refine iShapesOf_call (by assumption) ?_ | refine copyExpr_call (by assumption) ?_ | refine withoutNode_call (by assumption) (by assumption) (by omega) ?_ | refine takeN_in ?_ | refine set_force ?_ | refine And.intro (by kernel_rfl) ?_ | refine aIf_tt (by assumption) ?_); conv => whnf) | refine aIf_eqf ?_
          | refine aIf_not ?_ | (refine aIf_dec (fun _ => ?_) (fun _ => ?_) <;> conv => whnf))
        all_goals (first | (exfalso; omega) | contradiction | skip)
        refine ret_close 9 (q * 4 + 3) 5 _ _ 1 3 _ _ rfl (get_nodeS rfl hq) rfl (by decide) (Nat.zero_le _) (by decide) (by simp) ?_
        exact retEB (cdE_s hO) (congrArg Option.isSome hO).symm (by decide) rfl rfl rfl (close_nodeS rfl hq rfl) rfl (by simp)
  · have hO := cdO_f (ch := ch) hv
    cases hM : (shM xss ns).2 with
    | false =>
      conv => whnf
      repeat' (first
        | ((first | refine aIf_t ?_ | refine aIf_f ?_ | refine aGet_in rfl ?_ | refine load_same ?_ | refine And.intro rfl (And.intro (List.cons_ne_nil _ _) ?_) | refine And.intro (Nat.le_of_ble_eq_true rfl) ?_ | refine callG_t ?_ | refine append_same ?_ | refine And.intro (pureL_ii _ _) ?_ | refine And.intro (pureL_nd _ _) ?_ | refine iShapesOf_call (by assumption) ?_ | refine takeN_in ?_ | refine set_force ?_ | refine And.intro (by kernel_rfl) ?_ | refine aIf_ff (by assumption) ?_); conv => whnf) | refine aIf_eqf ?_
        | refine aIf_not ?_)
      all_goals (first | (exfalso; omega) | contradiction | skip)
      all_goals exact retEB (cdE_n hO) (congrArg Option.isSome hO).symm (by decide) rfl rfl rfl rfl rfl rfl
    | true =>
      have hp : ¬ (0 ≤ p ∧ p < ns.length) := fun h => hv ⟨hM, h⟩
      conv => whnf
      repeat' (first
        | ((first | refine aIf_t ?_ | refine aIf_f ?_ | refine fun (_ : _ ≤ maxLen) => ?_ | refine aGet_in rfl ?_ | refine And.intro (by omega) ?_ | refine load_same ?_ | refine And.intro rfl (And.intro (List.cons_ne_nil _ _) ?_) | refine And.intro (Nat.le_of_ble_eq_true rfl) ?_ | refine callG_t ?_ | refine indexOk_call trivial ?_ | refine append_same ?_ | refine And.intro (pureL_ii _ _) ?_ | refine And.intro (pureL_nd _ _) ?_ | refine cut_ii rfl ?_ | refine iShapesOf_call (by assumption) ?_ | refine takeN_in ?_ | refine set_force ?_ | refine And.intro (by kernel_rfl) ?_ | refine aIf_tt (by assumption) ?_); conv => whnf) | refine aIf_eqf ?_
        | refine aIf_not ?_ | (refine aIf_dec (fun _ => ?_) (fun _ => ?_) <;> conv => whnf))
      all_goals (first | (exfalso; omega) | contradiction | skip)
      all_goals exact retEB (cdE_n hO) (congrArg Option.isSome hO).symm (by decide) rfl rfl rfl rfl rfl rfl
theorem iChangeDo_call {c : Nat} {ch p : Int} {xss : List (List Int)} {ns : List Nd} {env : List AV} {rows : List Row} {ctr low : Nat} {k : AV → St → Prop} (hE : eP ns)
    (h : k (.tup [.agg [.ref rows.length ctr 0 (cdE xss ns ch p).1.length, .ref (rows.length + 1) ctr 0 (cdE xss ns ch p).2.length], .bool (cdO xss ns ch p).isSome]) ⟨env, rows ++ [⟨ctr, 46, 1, (cdE xss ns ch p).1.map (ownI 3)⟩, ⟨ctr, 48, 4, (cdE xss ns ch p).2.flatMap (ndO 3)⟩], ctr + 1, low⟩) :
    CallB Tryz.prog 9 ⟨env, rows, ctr, low⟩ [.agg [.sl c xss.length (xss.map (slI c)), .sl c ns.length (ns.flatMap (ndC c))], .int .i64 ch, .int .i64 p] k := callEB_in iChangeDo_sound (c, xss, ns, ch, p) ⟨hE, fun h => Bool.noConfusion h⟩ h
end Go.Proofs.YtpbenelmklggcaaGreat
namespace Go.Am
open Go.RowKit
theorem mapM_app {g : AV → Option AV} : ∀ {us us' vs vs' : List AV}, us.mapM g = some us' → vs.mapM g = some vs' → (us ++ vs).mapM g = some (us' ++ vs')
  | [], us', vs, vs', h, h' => by
    have : us' = [] := by simpa using h.symm
    subst this; exact h'
  | u :: us, us', vs, vs', h, h' => by
    simp only [List.mapM_cons, Option.pure_def, Option.bind_eq_bind, Option.bind_eq_some_iff, Option.some.injEq] at h
    obtain ⟨v, h1, ws, h2, rfl⟩ := h
    have := mapM_app h2 h'
    simp [List.mapM_cons, h1, this]
theorem tree_nodes {s : St} {t : TypeId} {f : Nat} (L : List Nd) : (L.flatMap (ndO t)).mapM (s.tree [] (f + 2)) = some (L.flatMap (ndC 0)) := mapM_imp (fun a b e => tr_tree (f + 2) a b e) (trL_flat (trL_ndO f t) L)
theorem tree_mix {s : St} {t : TypeId} {f q : Nat} {ns : List Nd} {a b c : Int} {u u' : AV} (hu : s.tree [] (f + 2) u = some u') :
    ((ns.take q).flatMap (ndO t) ++ ([.int .i64 a, .int .i64 b, .int .i64 c, u] ++ (ns.drop (q + 1)).flatMap (ndO t))).mapM (s.tree [] (f + 2)) = some ((ns.take q).flatMap (ndC 0) ++ ([.int .i64 a, .int .i64 b, .int .i64 c, u'] ++ (ns.drop (q + 1)).flatMap (ndC 0))) :=
  mapM_app (tree_nodes _) (mapM_app (mapM_next rfl (mapM_next rfl (mapM_next rfl (mapM_next hu rfl)))) (tree_nodes _))
theorem tree_row {s : St} {t : TypeId} {zs : List Int} {τ v f : Nat} (hr : s.rows[τ]? = some ⟨v, t, 1, zs.map (.int .i64)⟩) : s.tree [] (f + 2) (.ref τ v 0 zs.length) = some (slI 0 zs) := by
  refine tree_ref hr ⟨rfl, by simp, by simp⟩ ?_
  rw [List.drop_zero, Nat.mul_one, List.take_of_length_le (by simp)]
  exact scalL_tree (scalL_ints _ _)
def mixM (ns : List Nd) (q d : Nat) (n : Nd) : MN := (ns.take q).map (fun x => (0, x)) ++ ((d, n) :: (ns.drop (q + 1)).map (fun x => (0, x)))
theorem mixM_c (ns : List Nd) (q d : Nat) (n : Nd) : (mixM ns q d n).flatMap mnC = (ns.take q).flatMap (ndC 0) ++ ([.int .i64 n.op, .int .i64 n.a, .int .i64 n.b, slI d n.l] ++ (ns.drop (q + 1)).flatMap (ndC 0)) := by
  unfold mixM
  rw [List.flatMap_append, List.flatMap_cons, mn_all, mn_all]; rfl
theorem mixM_s {ns : List Nd} {q d : Nat} {n : Nd} (h : q < ns.length) : (mixM ns q d n).map Prod.snd = ns.set q n := by
  unfold mixM
  rw [List.map_append, List.map_cons, mn_snd, mn_snd, List.set_eq_take_append_cons_drop, if_pos h]
theorem mixM_l {ns : List Nd} {q d : Nat} {n : Nd} (h : q < ns.length) : (mixM ns q d n).length = ns.length := by
  have := congrArg List.length (mixM_s (d := d) (n := n) h)
  simpa using this
theorem callArgs_mix {env : List AV} {rows : List Row} {ctr low τ1 v1 τ2 v2 n1 n2 q d : Nat} {t tt tn : TypeId} {xss : List (List Int)} {ns : List Nd} {n : Nd} {u : AV} (h1 : rows[τ1]? = some ⟨v1, tt, 1, xss.map (ownI t)⟩) (h2 : rows[τ2]? = some ⟨v2, tn, 4, (ns.take q).flatMap (ndO t) ++ ([.int .i64 n.op, .int .i64 n.a, .int .i64 n.b, u] ++ (ns.drop (q + 1)).flatMap (ndO t))⟩)
    (hq : q < ns.length) (hu : (⟨env, rows, ctr, low⟩ : St).tree [] 2 u = some (slI d n.l)) (e1 : n1 = xss.length) (e2 : n2 = ns.length) :
    callArgs ⟨env, rows, ctr, low⟩ [] [] [.agg [.ref τ1 v1 0 n1, .ref τ2 v2 0 n2]] = some [.agg [.sl 0 xss.length (xss.map (slI 0)), .sl 0 (mixM ns q d n).length ((mixM ns q d n).flatMap mnC)]] := by
  subst e1; subst e2
  have hl : ((ns.take q).flatMap (ndO t) ++ ([.int .i64 n.op, .int .i64 n.a, .int .i64 n.b, u] ++ (ns.drop (q + 1)).flatMap (ndO t))).length = ns.length * 4 := by
    rw [List.length_append, List.length_append, flat_len (ndO_length t), flat_len (ndO_length t), List.length_take, List.length_drop]
    simp only [List.length_cons, List.length_nil]
    omega
  rw [mixM_c, mixM_l hq]
  refine callArgs_next (tree_agg (mapM_next (tree_ref h1 ⟨rfl, by simp, by simp⟩ ?_) (mapM_next (tree_ref h2 ⟨rfl, by simp only [hl]; omega, by simp⟩ ?_) rfl))) rfl
  · rw [List.drop_zero, Nat.mul_one, List.take_of_length_le (by simp)]
    exact mapM_imp (fun a b e => tr_tree 2 a b e) (trL_map (tr_ownI 0 t) xss)
  · simp only
    rw [List.drop_zero, List.take_of_length_le (by rw [hl]; exact Nat.le_refl _)]
    exact tree_mix (f := 0) hu
end Go.Am
namespace Go.Proofs.YtpbenelmklggcaaGreat
set_option maxRecDepth 20000
open Go.RowKit Go.Am
set_option linter.unusedSimpArgs false
attribute [local irreducible] aPlan aGet aIf aLoop aCall RetB NextB CallB CallG aCut aSet aAppend
theorem cX_ch {ns : List Nd} {ss : List (List Int)} {ch : Int} {q : Nat} {n : Nd} (h : cX ns ss ch q = some n) : 1 ≤ ch ∧ ch ≤ 8 := by
  refine Classical.byContradiction fun hc => ?_
  rw [cX_n (cX_pc h) hc] at h; cases h
theorem ExI.cX_l3 {xss ss : List (List Int)} {ns : List Nd} (hX : ExI xss ns ss) {q : Nat} (hq : q < ns.length) {ch : Int} {n : Nd} (h : cX ns ss ch q = some n) : n.l.length ≤ 3 := by
  have hz := cX_pc h
  have hl := hX.l3 hq
  rcases (show ch = 1 ∨ ch = 2 ∨ ch = 3 ∨ ch = 4 ∨ ch = 5 ∨ ch = 6 ∨ ch = 7 ∨ ch = 8 by have := cX_ch h; omega) with e | e | e | e | e | e | e | e
  all_goals subst e
  · rw [cX_1 hz] at h
    obtain ⟨-, rfl⟩ := some_n (show (if _ then none else some _ : Option Nd) = some n from h)
    exact hl
  · rw [cX_2 hz] at h
    obtain ⟨-, rfl⟩ := some_of (show (if _ then some _ else none : Option Nd) = some n from h)
    show (turned _ _).length ≤ 3
    rw [turned_length]; exact hl
  · rw [cX_3 hz] at h
    obtain ⟨-, rfl⟩ := some_of (show (if _ then some _ else none : Option Nd) = some n from h)
    exact hl
  · rw [cX_4 hz] at h
    obtain ⟨-, rfl⟩ := some_of (show (if _ then some _ else none : Option Nd) = some n from h)
    exact ok_len3 (hX.shp hq)
  · rw [cX_5 hz] at h
    unfold c5 at h
    split at h
    · cases h; exact Nat.zero_le _
    · split at h
      · cases h; exact Nat.zero_le _
      · obtain ⟨-, rfl⟩ := some_of h
        exact Nat.zero_le _
  · rw [cX_6 hz] at h
    obtain ⟨-, rfl⟩ := some_of (show (if _ then some _ else none : Option Nd) = some n from h)
    exact Nat.le_refl _
  · rw [cX_7 hz] at h
    unfold c7 at h
    split at h
    · split at h
      · cases h; exact Nat.le_refl _
      · obtain ⟨-, rfl⟩ := some_of h
        exact Nat.le_refl _
    · cases h
  · rw [cX_8 hz] at h
    obtain ⟨-, rfl⟩ := some_of (show (if _ then some _ else none : Option Nd) = some n from h)
    exact Nat.zero_le _
theorem getD_set_l {ns : List Nd} {q : Nat} {n : Nd} (hq : q < ns.length) {b : Nat} (hn : n.l.length ≤ b) (h : ∀ k, k < ns.length → (ns.getD k default).l.length ≤ b) : ∀ k, k < (ns.set q n).length → ((ns.set q n).getD k default).l.length ≤ b := fun k hk => by
  rw [List.length_set] at hk
  rw [getD_setG hq]
  split
  · exact hn
  · exact h k hk
theorem dTo_l {ns : List Nd} {g b : Nat} (h : ∀ k, k < ns.length → (ns.getD k default).l.length ≤ b) : ∀ m, m ≤ ns.length → ∀ k, k < (dTo ns g m).length → ((dTo ns g m).getD k default).l.length ≤ b
  | 0, _, k, hk => absurd hk (Nat.not_lt_zero _)
  | m + 1, hm, k, hk => by
    by_cases e : m = g
    · rw [dTo_g e] at hk ⊢
      exact dTo_l h m (by omega) k hk
    · rw [dTo_n e] at hk ⊢
      rw [List.length_append, List.length_singleton] at hk
      by_cases hk' : k < (dTo ns g m).length
      · rw [getD_app1 hk']; exact dTo_l h m (by omega) k hk'
      · rw [getD_app2 (by omega)]; exact h m (by omega)
theorem ExI.cpS {xss ss : List (List Int)} {ns : List Nd} (hX : ExI xss ns ss) {q : Nat} (hq : q < ns.length) {ch : Int} {n : Nd} (h : cX ns ss ch q = some n) : Go.Proofs.YtpbenelmklggcaaGreat.cpP xss (ns.set q n) := by
  obtain ⟨h1, h2, h3⟩ := hX.cpP
  exact ⟨h1, by rw [List.length_set]; exact h2, getD_set_l hq (by have := hX.cX_l3 hq h; omega) h3⟩
theorem ExI.cpD {xss ss : List (List Int)} {ns : List Nd} (hX : ExI xss ns ss) (g : Nat) : Go.Proofs.YtpbenelmklggcaaGreat.cpP xss (dropN ns g) := by
  obtain ⟨h1, h2, h3⟩ := hX.cpP
  exact ⟨h1, by have := dTo_le ns g ns.length; unfold dropN; omega, dTo_l h3 _ (Nat.le_refl _)⟩
theorem l6Copy_mix {τ1 v1 τ2 v2 n1 n2 q d : Nat} {xss : List (List Int)} {ns : List Nd} {n : Nd} {u : AV} {env : List AV} {rows : List Row} {ctr low : Nat} {k : AV → St → Prop} (h1 : rows[τ1]? = some ⟨v1, 46, 1, xss.map (ownI 3)⟩) (h2 : rows[τ2]? = some ⟨v2, 48, 4, (ns.take q).flatMap (ndO 3) ++ ([.int .i64 n.op, .int .i64 n.a, .int .i64 n.b, u] ++ (ns.drop (q + 1)).flatMap (ndO 3))⟩)
    (hq : q < ns.length) (hu : (⟨env, rows, ctr, low⟩ : St).tree [] 2 u = some (slI d n.l)) (e1 : n1 = xss.length) (e2 : n2 = ns.length) (hcp : cpP xss (ns.set q n))
    (h : k (.agg [.ref rows.length ctr 0 xss.length, .ref (rows.length + 1) ctr 0 (ns.set q n).length]) ⟨env, rows ++ [⟨ctr, 46, 1, xss.map (ownI 3)⟩, ⟨ctr, 48, 4, (ns.set q n).flatMap (ndO 3)⟩], ctr + 1, low⟩) :
    CallG Tryz.prog 24 ⟨env, rows, ctr, low⟩ [.agg [.ref τ1 v1 0 n1, .ref τ2 v2 0 n2]] k := by
  have e : mNs (mixM ns q d n) = ns.set q n := mixM_s hq
  refine callG_tree (callArgs_mix h1 h2 hq hu e1 e2) (l6Copy_call (by rw [e]; exact hcp) ?_)
  rw [e]; exact h
theorem l6Copy_mixR {τ1 v1 τ2 v2 τ3 v3 n1 n2 m q : Nat} {xss : List (List Int)} {ns : List Nd} {n : Nd} {env : List AV} {rows : List Row} {ctr low : Nat} {k : AV → St → Prop} (h1 : rows[τ1]? = some ⟨v1, 46, 1, xss.map (ownI 3)⟩) (h2 : rows[τ2]? = some ⟨v2, 48, 4, (ns.take q).flatMap (ndO 3) ++ ([.int .i64 n.op, .int .i64 n.a, .int .i64 n.b, .ref τ3 v3 0 m] ++ (ns.drop (q + 1)).flatMap (ndO 3))⟩)
    (h3 : rows[τ3]? = some ⟨v3, 3, 1, n.l.map (.int .i64)⟩) (hm : m = n.l.length) (hq : q < ns.length) (e1 : n1 = xss.length) (e2 : n2 = ns.length) (hcp : cpP xss (ns.set q n))
    (h : k (.agg [.ref rows.length ctr 0 xss.length, .ref (rows.length + 1) ctr 0 (ns.set q n).length]) ⟨env, rows ++ [⟨ctr, 46, 1, xss.map (ownI 3)⟩, ⟨ctr, 48, 4, (ns.set q n).flatMap (ndO 3)⟩], ctr + 1, low⟩) :
    CallG Tryz.prog 24 ⟨env, rows, ctr, low⟩ [.agg [.ref τ1 v1 0 n1, .ref τ2 v2 0 n2]] k := by
  subst hm
  exact l6Copy_mix (d := 0) h1 h2 hq (tree_row (f := 0) h3) e1 e2 hcp h
theorem sChangeOk_callV {c : Nat} {ch p : Int} {xss : List (List Int)} {ns : List Nd} {b : Bool} {env : List AV} {rows : List Row} {ctr low : Nat} {k : AV → St → Prop} (hE : eP ns) (hb : okV xss ns ch p = b) (h : k (.bool b) ⟨env, rows, ctr + 1, low⟩) :
    CallB Tryz.prog 22 ⟨env, rows, ctr, low⟩ [.agg [.sl c xss.length (xss.map (slI c)), .sl c ns.length (ns.flatMap (ndC c))], .int .i64 ch, .int .i64 p] k := by
  subst hb; exact sChangeOk_call hE h
theorem l6Below_callV {c g : Nat} {xss : List (List Int)} {ns : List Nd} {b : Bool} {env : List AV} {rows : List Row} {ctr low : Nat} {k : AV → St → Prop} (hM : (shM xss ns).2 = true) (hg : g < ns.length) (hb : blB ns g = b) (h : k (.bool b) ⟨env, rows, ctr + 1, low⟩) :
    CallB Tryz.prog 23 ⟨env, rows, ctr, low⟩ [.agg [.sl c xss.length (xss.map (slI c)), .sl c ns.length (ns.flatMap (ndC c))], .int .i64 g] k := by
  subst hb; exact l6Below_call hM hg h
end Go.Proofs.YtpbenelmklggcaaGreat
namespace Go.Proofs.YtpbenelmklggcaaGreat
set_option maxRecDepth 20000
open Go.RowKit Go.Am
set_option linter.unusedSimpArgs false
attribute [local irreducible] aPlan aGet aIf aLoop aCall RetB NextB CallB CallG aCut aSet aAppend
set_option maxHeartbeats 8000000 in
theorem sChangeDo_sound1 : Sound Tryz.prog 7 (sChangeDo true) := by
  refine sound_of Tryz.func7 rfl (enters_of Tryz.func7 (by kernel_rfl) (by kernel_rfl)) ?_
  rintro ⟨c, xss, ns, ch, p⟩ ⟨hE, hc1⟩
  have hE : eP ns := hE
  obtain rfl : c = 1 := hc1 rfl
  have hmax : maxLen = 9223372036854775807 := rfl
  by_cases hv : (shM xss ns).2 = true ∧ 0 ≤ p ∧ p < ns.length
  · obtain ⟨hM, hp⟩ := hv
    obtain ⟨q, rfl⟩ : ∃ q : Nat, p = q := ⟨p.toNat, by omega⟩
    have hq : q < ns.length := by omega
    have hX := exI_of hM
    have h12 := hX.n12
    have hok : okV xss ns ch q = okC xss ns ch q := (if_pos ⟨hM, hp⟩).trans (by rw [Int.toNat_natCast])
    by_cases hc : ch = 0
    · subst hc
      rw [okC_0] at hok
      have hO := cdO_0 hM hq
      have hdr := dr_bl hM hq
      cases hne : (neL xss ns).getD q false with
      | true =>
        rw [hne] at hok hdr
        have hO := hO.trans (if_neg (of_decide_eq_false hdr))
        conv => whnf
        repeat' (first
          | ((first | refine sChangeOk_callV hE hok ?_ | refine plan_in (id := 6) [0, 1, 2, 3, 4, 5, 6, 7, 8, 9, 10, 11, 12] (by kernel_rfl) (by kernel_rfl) ?_ | refine aIf_t ?_ | refine aIf_f ?_ | refine load_same ?_ | refine And.intro rfl (And.intro (List.cons_ne_nil _ _) ?_) | refine And.intro (Nat.le_of_ble_eq_true rfl) ?_ | refine callG_t ?_ | refine append_same ?_ | refine And.intro (pureL_ii _ _) ?_ | refine And.intro (pureL_nd _ _) ?_ | refine takeN_in ?_ | refine set_force ?_ | refine And.intro (by kernel_rfl) ?_); conv => whnf))
        all_goals (first | (exfalso; omega) | contradiction | skip)
        all_goals exact retEB (cdE_n hO) (congrArg Option.isSome hO).symm (by decide) rfl rfl rfl rfl rfl rfl
      | false =>
        rw [hne] at hok hdr
        cases hbl : blB ns q with
        | true =>
          rw [hbl] at hdr
          have hO := hO.trans (if_neg (of_decide_eq_false hdr))
          conv => whnf
          repeat' (first
            | ((first | refine sChangeOk_callV hE hok ?_ | refine l6Below_callV hM hq hbl ?_ | refine plan_in (id := 6) [0, 1, 2, 3, 4, 5, 6, 7, 8, 9, 10, 11, 12] (by kernel_rfl) (by kernel_rfl) ?_ | refine aIf_t ?_ | refine aIf_f ?_ | refine load_same ?_ | refine And.intro rfl (And.intro (List.cons_ne_nil _ _) ?_) | refine And.intro (Nat.le_of_ble_eq_true rfl) ?_ | refine callG_t ?_ | refine append_same ?_ | refine And.intro (pureL_ii _ _) ?_ | refine And.intro (pureL_nd _ _) ?_ | refine takeN_in ?_ | refine set_force ?_ | refine And.intro (by kernel_rfl) ?_); conv => whnf))
          all_goals (first | (exfalso; omega) | contradiction | skip)
          all_goals exact retEB (cdE_n hO) (congrArg Option.isSome hO).symm (by decide) rfl rfl rfl rfl rfl rfl
        | false =>
          rw [hbl] at hdr
          have hO := hO.trans (if_pos (of_decide_eq_true hdr))
          have hcp := hX.cpD q
          conv => whnf
          repeat' (first
            | ((first | refine sChangeOk_callV hE hok ?_ | refine l6Below_callV hM hq hbl ?_ | refine l6Copy_callE hcp ?_ | refine plan_in (id := 6) [0, 1, 2, 3, 4, 5, 6, 7, 8, 9, 10, 11, 12] (by kernel_rfl) (by kernel_rfl) ?_ | refine aIf_t ?_ | refine aIf_f ?_ | refine load_same ?_ | refine And.intro rfl (And.intro (List.cons_ne_nil _ _) ?_) | refine And.intro (Nat.le_of_ble_eq_true rfl) ?_ | refine callG_t ?_ | refine append_same ?_ | refine And.intro (pureL_ii _ _) ?_ | refine And.intro (pureL_nd _ _) ?_ | refine l6Drop_call (by assumption) (by omega) ?_ | refine cut_ndC rfl ?_ | refine takeN_in ?_ | refine set_force ?_ | refine And.intro (by kernel_rfl) ?_); conv => whnf))
          all_goals (first | (exfalso; omega) | contradiction | skip)
          all_goals exact retEB (cdE_s hO) (congrArg Option.isSome hO).symm (by decide) rfl rfl rfl rfl rfl rfl
    · have hO := cdO_c hM hq hc
      rw [okC_s hc] at hok
      cases hn : cX ns (shM xss ns).1 ch q with
      | none =>
        rw [hn] at hO hok
        have hO : cdO xss ns ch q = none := hO
        have hok : okV xss ns ch q = false := hok
        conv => whnf
        repeat' (first
          | ((first | refine sChangeOk_callV hE hok ?_ | refine plan_in (id := 6) [0, 1, 2, 3, 4, 5, 6, 7, 8, 9, 10, 11, 12] (by kernel_rfl) (by kernel_rfl) ?_ | refine aIf_t ?_ | refine aIf_f ?_ | refine load_same ?_ | refine And.intro rfl (And.intro (List.cons_ne_nil _ _) ?_) | refine And.intro (Nat.le_of_ble_eq_true rfl) ?_ | refine callG_t ?_ | refine append_same ?_ | refine And.intro (pureL_ii _ _) ?_ | refine And.intro (pureL_nd _ _) ?_ | refine takeN_in ?_ | refine set_force ?_ | refine And.intro (by kernel_rfl) ?_); conv => whnf))
        all_goals (first | (exfalso; omega) | contradiction | skip)
        all_goals exact retEB (cdE_n hO) (congrArg Option.isSome hO).symm (by decide) rfl rfl rfl rfl rfl rfl
      | some n =>
        rw [hn] at hO hok
        have hO : cdO xss ns ch q = some (ns.set q n) := hO
        have hok : okV xss ns ch q = true := hok
        have hch := cX_ch hn
        have hcp := hX.cpP
        have hcs := hX.cpS hq hn
        conv => whnf
        repeat' (first
          | ((first | refine sChangeOk_callV hE hok ?_ | refine l6Copy_callE hcp ?_); conv => whnf) | (refine l6Do_call hE hM hq rfl hn hch ?_ ?_ <;> conv => whnf) | ((first | refine set_nodeN (p := q) (by simp) hq ?_ | refine And.intro (fit_node (p := q) (by simp) hq) ?_ | refine l6Copy_mix (xss := xss) (ns := ns) (n := n) (q := q) (d := 1) (u := .sl 1 n.l.length (n.l.map (.int .i64))) rfl rfl hq (tree_sl (pureL_ints _ _)) rfl rfl hcs ?_ | refine l6Copy_mixR (xss := xss) (ns := ns) (n := n) (q := q) rfl rfl rfl rfl hq rfl rfl hcs ?_ | refine plan_in (id := 6) [0, 1, 2, 3, 4, 5, 6, 7, 8, 9, 10, 11, 12] (by kernel_rfl) (by kernel_rfl) ?_ | refine aIf_t ?_ | refine aIf_f ?_ | refine aGet_in rfl ?_ | refine And.intro (by omega) ?_ | refine load_same ?_ | refine And.intro rfl (And.intro (List.cons_ne_nil _ _) ?_) | refine And.intro (Nat.le_of_ble_eq_true rfl) ?_ | refine callG_t ?_ | refine append_same ?_ | refine part_nd_n (by omega) ?_ | refine And.intro (pureL_ii _ _) ?_ | refine And.intro (pureL_nd _ _) ?_ | refine l6Below_call (by assumption) (by omega) ?_ | refine l6Drop_call (by assumption) (by omega) ?_ | refine cut_ndC rfl ?_ | refine takeN_in ?_ | refine And.intro (pureL_ints _ _) ?_ | refine set_force ?_ | refine And.intro (by kernel_rfl) ?_); conv => whnf) | refine aIf_eqt ?_
          | (refine aIf_dec (fun _ => ?_) (fun _ => ?_) <;> conv => whnf) | (refine aIf_in (fun _ => ?_) (fun _ => ?_) <;> conv => whnf))
        all_goals (first | (exfalso; omega) | contradiction | skip)
        all_goals exact retEB (cdE_s hO) (congrArg Option.isSome hO).symm (by decide) rfl rfl rfl rfl rfl rfl
  · have hO := cdO_f (ch := ch) hv
    have hok : okV xss ns ch p = false := if_neg hv
    conv => whnf
    repeat' (first
      | ((first | refine sChangeOk_callV hE hok ?_ | refine plan_in (id := 6) [0, 1, 2, 3, 4, 5, 6, 7, 8, 9, 10, 11, 12] (by kernel_rfl) (by kernel_rfl) ?_ | refine aIf_t ?_ | refine aIf_f ?_ | refine load_same ?_ | refine And.intro rfl (And.intro (List.cons_ne_nil _ _) ?_) | refine And.intro (Nat.le_of_ble_eq_true rfl) ?_ | refine callG_t ?_ | refine append_same ?_ | refine And.intro (pureL_ii _ _) ?_ | refine And.intro (pureL_nd _ _) ?_ | refine takeN_in ?_ | refine set_force ?_ | refine And.intro (by kernel_rfl) ?_); conv => whnf))
    all_goals (first | (exfalso; omega) | contradiction | skip)
    all_goals exact retEB (cdE_n hO) (congrArg Option.isSome hO).symm (by decide) rfl rfl rfl rfl rfl rfl
theorem sChangeDo_sound : Sound Tryz.prog 7 (sChangeDo false) := by
  have h1 : Sound Tryz.prog 7 { sChangeDo false with args := fun | (_, xss, ns, ch, p) => [.agg [.sl 1 xss.length (xss.map (slI 1)), .sl 1 ns.length (ns.flatMap (ndC 1))], .int .i64 ch, .int .i64 p] } := by
    refine ⟨sChangeDo_sound1.1, ?_⟩
    rintro ⟨c, xss, ns, ch, p⟩ hpre
    exact sChangeDo_sound1.2 (1, xss, ns, ch, p) ⟨hpre.1, fun _ => rfl⟩
  refine sound_one (sp := { sChangeDo false with args := fun | (_, xss, ns, ch, p) => [.agg [.sl 1 xss.length (xss.map (slI 1)), .sl 1 ns.length (ns.flatMap (ndC 1))], .int .i64 ch, .int .i64 p] }) (sChangeDo false).args h1 (fun _ => rfl) ?_ ?_
  · rintro ⟨c, xss, ns, ch, p⟩
    show [.agg [.sl 1 xss.length (xss.map (slI 1)), .sl 1 ns.length (ns.flatMap (ndC 1))], .int .i64 ch, .int .i64 p] = oneL [.agg [.sl c xss.length (xss.map (slI c)), .sl c ns.length (ns.flatMap (ndC c))], .int .i64 ch, .int .i64 p]
    simp only [oneL, AV.one, oneL_ii, oneL_nd]
  · rintro ⟨c, xss, ns, ch, p⟩ r ic news ⟨-, rfl, rfl⟩
    refine ⟨rfl, fun m hm => ?_⟩
    rcases List.mem_cons.1 hm with rfl | hm
    · exact bareL_oi _ _
    · rcases List.mem_cons.1 hm with rfl | hm
      · exact bareL_ond _ _
      · simp at hm
theorem sChangeDo_call {c : Nat} {ch p : Int} {xss : List (List Int)} {ns : List Nd} {env : List AV} {rows : List Row} {ctr low : Nat} {k : AV → St → Prop} (hE : eP ns)
    (h : k (.tup [.agg [.ref rows.length ctr 0 (cdE xss ns ch p).1.length, .ref (rows.length + 1) ctr 0 (cdE xss ns ch p).2.length], .bool (cdO xss ns ch p).isSome]) ⟨env, rows ++ [⟨ctr, 46, 1, (cdE xss ns ch p).1.map (ownI 3)⟩, ⟨ctr, 48, 4, (cdE xss ns ch p).2.flatMap (ndO 3)⟩], ctr + 1, low⟩) :
    CallB Tryz.prog 7 ⟨env, rows, ctr, low⟩ [.agg [.sl c xss.length (xss.map (slI c)), .sl c ns.length (ns.flatMap (ndC c))], .int .i64 ch, .int .i64 p] k := callEB_in sChangeDo_sound (c, xss, ns, ch, p) ⟨hE, fun h => Bool.noConfusion h⟩ h
end Go.Proofs.YtpbenelmklggcaaGreat
