import Derived.Test.YtjmdhfjemaoebaaGreatM01x31
import Derived.Test.YtjmdhfjemaoebaaGreatM01x32
import Derived.Test.YtjmdhfjemaoebaaGreatF0
namespace Go.Proofs.YtjmdhfjemaoebaaGreat
set_option maxRecDepth 20000
open Go.RowKit Go.Am
set_option linter.unusedSimpArgs false
def voM (xss : List (List Int)) (ns : List Nd) (ts : List T2) : List Int × List Int × Bool := if (vaM xss ns ts).2 then (((vaM xss ns ts).1.getD ((vaM xss ns ts).1.length - 1) default).1, ((vaM xss ns ts).1.getD ((vaM xss ns ts).1.length - 1) default).2, true) else ([], [], false)
theorem vaM_pos {xss : List (List Int)} {ns : List Nd} {ts : List T2} (hb : (vaM xss ns ts).2 = true) : 1 ≤ (vaM xss ns ts).1.length ∧ (vaM xss ns ts).1.length ≤ 12 := by
  by_cases h : inP xss ns ts
  · cases e : vaTo ns ts ns.length with
    | none => rw [vaM_n e] at hb; cases hb
    | some vs =>
      rw [vaM_t h e]
      have hl := vaTo_len e
      have h12 := (shM_form h.1).1.2
      have h1 := (shM_form h.1).1.1
      exact ⟨by show 1 ≤ vs.length; omega, by show vs.length ≤ 12; omega⟩
  · rw [vaM_f h] at hb; cases hb
def sValueOf : CSpec := fnTB (ι := Nat × List (List Int) × List Nd × Nat × List T2) 3 (fun | (c, xss, ns, d, ts) => [.agg [.sl c xss.length (xss.map (slI c)), .sl c ns.length (ns.flatMap (ndC c))], .sl d ts.length (ts.flatMap (tnC d))]) (fun | (_, _, ns, _, _) => eP ns) (fun | (_, xss, ns, _, ts) => voM xss ns ts)
theorem voM_t {xss : List (List Int)} {ns : List Nd} {ts : List T2} (hb : (vaM xss ns ts).2 = true) : voM xss ns ts = (((vaM xss ns ts).1.getD ((vaM xss ns ts).1.length - 1) default).1, ((vaM xss ns ts).1.getD ((vaM xss ns ts).1.length - 1) default).2, true) := by unfold voM; rw [if_pos hb]
theorem drop_ab {A B : List AV} {n : Nat} {u v x y : AV} (h : A.length = n * 2) : (((A ++ ([u, v] ++ B)).set (n * 2 + 0) x).set (n * 2 + 1) y).drop (n * 2) = x :: y :: B := by
  rw [set_mid (i := 0) (by rw [h]) (by simp), set_mid (i := 1) (by rw [h]) (by simp), ← h, List.drop_left]; rfl
theorem load_in {P : Program} {s : St} {t : TypeId} {τ ver off : Nat} {r : Row} {ys : List AV} {k : AV → Prop} (hr : s.rows[τ]? = some r) (hv : r.ver = ver) (h : r.cells.drop off = ys) (hk : aPart P t ys k) : aLoad P s t (.ptr τ ver off) k := by
  show aRow s τ ver fun r => aPart P t (r.cells.drop off) k
  unfold aRow; rw [hr]; show (if r.ver = ver then aPart P t (r.cells.drop off) k else False); rw [if_pos hv, h]; exact hk
set_option maxHeartbeats 4000000 in
theorem iValueOf_sound : Sound Tryz.prog 32 sValueOf := by
  refine sound_of Tryz.func32 rfl (enters_of Tryz.func32 (by kernel_rfl) (by kernel_rfl)) ?_
  rintro ⟨c, xss, ns, d, ts⟩ hpre
  cases hb : (vaM xss ns ts).2 with
  | false =>
    have hM : voM xss ns ts = ([], [], false) := by unfold voM; rw [hb]; rfl
    have hn : (!(vaM xss ns ts).2) = true := by rw [hb]; rfl
    conv => whnf
    repeat' (first
      | ((first | refine aGet_in rfl ?_ | refine load_same ?_ | refine And.intro rfl (And.intro (List.cons_ne_nil _ _) ?_) | refine And.intro (Nat.le_of_ble_eq_true rfl) ?_ | refine callG_t ?_ | refine append_same ?_ | refine And.intro (pureL_ii _ _) ?_ | refine And.intro (pureL_nd _ _) ?_ | refine And.intro (pureL_tn _ _) ?_ | refine iValuesOf_call (by assumption) ?_ | refine takeN_in ?_ | refine And.intro (by kernel_rfl) ?_ | refine aIf_tt (by assumption) ?_); conv => whnf))
    refine retTB (hM := hM) ?_ ?_ ?_ ?_ ?_
    all_goals (first | exact rfl | decide | (simp; done))
  | true =>
    have hM := voM_t hb
    have hn : (!(vaM xss ns ts).2) = false := by rw [hb]; rfl
    conv => whnf
    repeat' (first
      | ((first | refine fun (_ : _ ≤ maxLen) => ?_ | refine aGet_in rfl ?_ | refine load_same ?_ | refine And.intro rfl (And.intro (List.cons_ne_nil _ _) ?_) | refine And.intro (Nat.le_of_ble_eq_true rfl) ?_ | refine callG_t ?_ | refine append_same ?_ | refine And.intro (pureL_ii _ _) ?_ | refine And.intro (pureL_nd _ _) ?_ | refine And.intro (pureL_tn _ _) ?_ | refine iValuesOf_call (by assumption) ?_ | refine takeN_in ?_ | refine And.intro (by kernel_rfl) ?_ | refine aIf_ff (by assumption) ?_); conv => whnf))
    have hp := vaM_pos hb
    have hw : IntKind.i64.wrap (((vaM xss ns ts).1.length : Int) - 1) = ((vaM xss ns ts).1.length : Int) - 1 := by simp only [IntKind.wrap_i64]; omega
    have ho : 0 + (((vaM xss ns ts).1.length : Int) - 1).toNat * (0 + 2) = ((vaM xss ns ts).1.length - 1) * 2 := by omega
    obtain ⟨A, B, hA, hs, -⟩ := flat_split (f := tnO 3) (fun x => tnO_length _ x) default (l := (vaM xss ns ts).1) (k := (vaM xss ns ts).1.length - 1) (by omega)
    rw [hw]
    refine And.intro (by omega) ?_
    rw [ho, hs]
    conv => whnf
    refine Exists.intro _ (And.intro (St.opens.step _ _ 4 (((vaM xss ns ts).1.length - 1) * 2 + 0) _ 3 1 _ _ rfl (get_a0 hA) (St.opens.step _ _ 4 (((vaM xss ns ts).1.length - 1) * 2 + 1) _ 3 1 _ _ rfl (get_a1 hA) (St.opens.refl _))) ?_)
    refine load_in rfl rfl (drop_ab hA) ?_
    conv => whnf
    repeat' (first
      | ((first | refine And.intro (Nat.le_of_ble_eq_true rfl) ?_ | refine append_same ?_ | refine takeN_in ?_ | refine And.intro (by kernel_rfl) ?_); conv => whnf))
    refine retTB (hM := hM) ?_ ?_ ?_ ?_ ?_
    all_goals (first | exact rfl | decide | (simp; done))
set_option maxHeartbeats 4000000 in
theorem sValueOf_sound : Sound Tryz.prog 31 sValueOf := by
  refine sound_of Tryz.func31 rfl (enters_of Tryz.func31 (by kernel_rfl) (by kernel_rfl)) ?_
  rintro ⟨c, xss, ns, d, ts⟩ hpre
  cases hb : (vaM xss ns ts).2 with
  | false =>
    have hM : voM xss ns ts = ([], [], false) := by unfold voM; rw [hb]; rfl
    have hn : (!(vaM xss ns ts).2) = true := by rw [hb]; rfl
    conv => whnf
    repeat' (first
      | ((first | refine aGet_in rfl ?_ | refine load_same ?_ | refine And.intro rfl (And.intro (List.cons_ne_nil _ _) ?_) | refine And.intro (Nat.le_of_ble_eq_true rfl) ?_ | refine callG_t ?_ | refine append_same ?_ | refine And.intro (pureL_ii _ _) ?_ | refine And.intro (pureL_nd _ _) ?_ | refine And.intro (pureL_tn _ _) ?_ | refine sValuesOf_call (by assumption) ?_ | refine takeN_in ?_ | refine And.intro (by kernel_rfl) ?_ | refine aIf_tt (by assumption) ?_); conv => whnf))
    refine retTB (hM := hM) ?_ ?_ ?_ ?_ ?_
    all_goals (first | exact rfl | decide | (simp; done))
  | true =>
    have hM := voM_t hb
    have hn : (!(vaM xss ns ts).2) = false := by rw [hb]; rfl
    conv => whnf
    repeat' (first
      | ((first | refine fun (_ : _ ≤ maxLen) => ?_ | refine aGet_in rfl ?_ | refine load_same ?_ | refine And.intro rfl (And.intro (List.cons_ne_nil _ _) ?_) | refine And.intro (Nat.le_of_ble_eq_true rfl) ?_ | refine callG_t ?_ | refine append_same ?_ | refine And.intro (pureL_ii _ _) ?_ | refine And.intro (pureL_nd _ _) ?_ | refine And.intro (pureL_tn _ _) ?_ | refine sValuesOf_call (by assumption) ?_ | refine takeN_in ?_ | refine And.intro (by kernel_rfl) ?_ | refine aIf_ff (by assumption) ?_); conv => whnf))
    have hp := vaM_pos hb
    have hw : IntKind.i64.wrap (((vaM xss ns ts).1.length : Int) - 1) = ((vaM xss ns ts).1.length : Int) - 1 := by simp only [IntKind.wrap_i64]; omega
    have ho : 0 + (((vaM xss ns ts).1.length : Int) - 1).toNat * (0 + 2) = ((vaM xss ns ts).1.length - 1) * 2 := by omega
    obtain ⟨A, B, hA, hs, -⟩ := flat_split (f := tnO 3) (fun x => tnO_length _ x) default (l := (vaM xss ns ts).1) (k := (vaM xss ns ts).1.length - 1) (by omega)
    rw [hw]
    refine And.intro (by omega) ?_
    rw [ho, hs]
    conv => whnf
    refine Exists.intro _ (And.intro (St.opens.step _ _ 4 (((vaM xss ns ts).1.length - 1) * 2 + 0) _ 3 1 _ _ rfl (get_a0 hA) (St.opens.step _ _ 4 (((vaM xss ns ts).1.length - 1) * 2 + 1) _ 3 1 _ _ rfl (get_a1 hA) (St.opens.refl _))) ?_)
    refine load_in rfl rfl (drop_ab hA) ?_
    conv => whnf
    repeat' (first
      | ((first | refine And.intro (Nat.le_of_ble_eq_true rfl) ?_ | refine append_same ?_ | refine takeN_in ?_ | refine And.intro (by kernel_rfl) ?_); conv => whnf))
    refine retTB (hM := hM) ?_ ?_ ?_ ?_ ?_
    all_goals (first | exact rfl | decide | (simp; done))
theorem iValueOf_call {c d : Nat} {xss : List (List Int)} {ns : List Nd} {ts : List T2} {env : List AV} {rows : List Row} {ctr low : Nat} {k : AV → St → Prop} (hpre : eP ns)
    (hk : k (.tup [.agg [.ref rows.length ctr 0 (voM xss ns ts).1.length, .ref (rows.length + 1) ctr 0 (voM xss ns ts).2.1.length], .bool (voM xss ns ts).2.2]) ⟨env, rows ++ [⟨ctr, 3, 1, (voM xss ns ts).1.map (.int .i64)⟩, ⟨ctr, 3, 1, (voM xss ns ts).2.1.map (.int .i64)⟩], ctr + 1, low⟩) :
    CallB Tryz.prog 32 ⟨env, rows, ctr, low⟩ [.agg [.sl c xss.length (xss.map (slI c)), .sl c ns.length (ns.flatMap (ndC c))], .sl d ts.length (ts.flatMap (tnC d))] k := callTB_in iValueOf_sound (c, xss, ns, d, ts) hpre hk
theorem sValueOf_call {c d : Nat} {xss : List (List Int)} {ns : List Nd} {ts : List T2} {env : List AV} {rows : List Row} {ctr low : Nat} {k : AV → St → Prop} (hpre : eP ns)
    (hk : k (.tup [.agg [.ref rows.length ctr 0 (voM xss ns ts).1.length, .ref (rows.length + 1) ctr 0 (voM xss ns ts).2.1.length], .bool (voM xss ns ts).2.2]) ⟨env, rows ++ [⟨ctr, 3, 1, (voM xss ns ts).1.map (.int .i64)⟩, ⟨ctr, 3, 1, (voM xss ns ts).2.1.map (.int .i64)⟩], ctr + 1, low⟩) :
    CallB Tryz.prog 31 ⟨env, rows, ctr, low⟩ [.agg [.sl c xss.length (xss.map (slI c)), .sl c ns.length (ns.flatMap (ndC c))], .sl d ts.length (ts.flatMap (tnC d))] k := callTB_in sValueOf_sound (c, xss, ns, d, ts) hpre hk
end Go.Proofs.YtjmdhfjemaoebaaGreat
