import Derived.Test.YtilimbdpdpfalaaM0x11
import Derived.Test.YtilimbdpdpfalaaT3
/- Chapter 3: what the laws do with an expression that they handed in: marks. -/
namespace Go.Am
open Go.RowKit
/-- A call that writes into a struct's two rows, leaves the first one as told and the second one as one of many, and answers a number. -/
def fnMX2 {ι β : Type} (t : TypeId) (z : Nat) (t' : TypeId) (z' : Nat) (n n' : ι → Nat) (cells cells' : ι → List AV) (m : ι → Int) (pre : ι → Prop) (r : ι → Int) (out : ι → List AV) (out' : β → List AV) : CSpec :=
  { ι := ι, inout := [true], args := fun x => [.agg [.ref 0 0 0 (n x), .ref 1 0 0 (n' x)], .int .i64 (m x)], ins := fun x => [⟨0, t, z, cells x⟩, ⟨0, t', z', cells' x⟩], pre := pre, post := fun x u ic news => u = .int .i64 (r x) ∧ (∃ y, ic = [out x, out' y]) ∧ news = [] }
theorem callMX2_in {P : Program} {f : FuncId} {ι β : Type} {t t' : TypeId} {z z' : Nat} {n n' : ι → Nat} {cells cells' : ι → List AV} {m : ι → Int} {pre : ι → Prop} {r : ι → Int} {out : ι → List AV} {out' : β → List AV} (hs : Sound P f (fnMX2 t z t' z' n n' cells cells' m pre r out out')) (x : ι) (hpre : pre x) (hp : protL (cells x) = true) (hp' : protL (cells' x) = true) (ho : protL (out x) = true) (ho' : ∀ y, protL (out' y) = true) {env : List AV} {rows : List Row} {ctr low τ1 τ2 v1 v2 n1 n2 : Nat} {i : Int} {k : AV → St → Prop}
    (h1 : rows[τ1]? = some ⟨v1, t, z, cells x⟩) (h2 : rows[τ2]? = some ⟨v2, t', z', cells' x⟩) (hne : τ1 ≠ τ2) (e1 : n1 = n x) (e2 : n2 = n' x) (hi : i = m x) (hk : ∀ y, k (.int .i64 (r x)) ⟨env, setRows rows [τ1, τ2] [out x, out' y], ctr + 1, low⟩) :
    CallG P f ⟨env, rows, ctr, low⟩ [.agg [.ref τ1 v1 0 n1, .ref τ2 v2 0 n2], .int .i64 i] k := by
  subst e1; subst e2; subst hi
  refine .inr ⟨[τ1, τ2], _, hs, [.agg [.ref 0 0 0 (n x), .ref 1 0 0 (n' x)], .int .i64 (m x)], [⟨0, t, z, cells x⟩, ⟨0, t', z', cells' x⟩], by simpa using hne, ?_, ?_, x, rfl, rfl, hpre, ?_⟩
  · have hb : (τ1 == τ2) = false := by simpa using hne
    have ea : callArg ⟨env, rows, ctr, low⟩ [τ1, τ2] true (.agg [.ref τ1 v1 0 (n x), .ref τ2 v2 0 (n' x)]) = some (.agg [.ref 0 0 0 (n x), .ref 1 0 0 (n' x)]) := by
      simp [callArg, AV.ren, renL, h1, h2, List.idxOf, List.findIdx_cons, hb]
    show (callArg ⟨env, rows, ctr, low⟩ [τ1, τ2] true (.agg [.ref τ1 v1 0 (n x), .ref τ2 v2 0 (n' x)])).bind _ = _
    rw [ea]
    rfl
  · simp [insOf, h1, h2, protL_ren hp, protL_ren hp']
  · rintro u ic news ⟨rfl, ⟨y, rfl⟩, rfl⟩ _
    show k (.int .i64 (r x)) ⟨env, setRows rows [τ1, τ2] [backL _ [τ1, τ2] (out x), backL _ [τ1, τ2] (out' y)] ++ [], ctr + 1, low⟩
    rw [List.append_nil, protL_back ho, protL_back (ho' y)]; exact hk y
theorem retMX2 {β : Type} {env : List AV} {ctr : Nat} {t t' : TypeId} {z z' : Nat} {cells cells' o1 o2 out : List AV} {out' : β → List AV} {v1 v2 : Nat} {rest : List Row} {i i' : Int} (y : β) (hp : protL o1 = true) (hp' : protL o2 = true) (e : i = i') (hc : o1 = out) (hc' : o2 = out' y) :
    RetB ⟨env, ⟨v1, t, z, o1⟩ :: ⟨v2, t', z', o2⟩ :: rest, ctr, 2⟩ [⟨0, t, z, cells⟩, ⟨0, t', z', cells'⟩] (fun u ic news => u = .int .i64 i' ∧ (∃ y, ic = [out, out' y]) ∧ news = []) (.int .i64 i) := by
  subst e; subst hc; subst hc'
  refine RetB1.ret ⟨[], [⟨0, t, z, o1⟩, ⟨0, t', z', out' y⟩], .int .i64 i, [o1, out' y], [], (show ([0, 1] : List Nat).Nodup by decide), ?_, rfl, rfl, rfl, rfl, ⟨y, rfl⟩, rfl⟩
  show insOf _ [0, 1] [0, 1] = _
  simp [insOf, protL_ren hp, protL_ren hp']
end Go.Am
namespace Go.Proofs.Ytilimbdpdpfalaa
set_option maxRecDepth 20000
open Go.RowKit Go.Am
attribute [local irreducible] aPlan aGet aIf aLoop aCall RetB NextB CallB CallG aCut aSet aAppend
theorem markN_call {ns : List Nd} {m : Int} {env : List AV} {rows : List Row} {ctr low τ ver n : Nat} {k : AV → St → Prop} (hr : rows[τ]? = some ⟨ver, 82, 4, ns.flatMap (ndO 3)⟩) (hn : n = ns.length) (hpre : ns.length ≤ 1048576 ∧ ntot ns ≤ 1048576 ∧ 0 ≤ m ∧ m ≤ 100000000000)
    (hk : ∀ L : List Nd, k (.int .i64 (m + 3 * ns.length + ntot ns)) ⟨env, setRows rows [τ] [L.flatMap (ndO 3)], ctr + 1, low⟩) : CallG Try.prog 80 ⟨env, rows, ctr, low⟩ [.ref τ ver 0 n, .int .i64 m] k :=
  callMX_in markN_sound (ns, m) hpre (protL_ond _ _) (fun L => protL_ond _ L) hr hn rfl fun L _ => hk L
def sMarkE : CSpec := fnMX2 (ι := List (List Int) × List Nd × Int) (β := List Nd) 46 1 82 4 (fun x => x.1.length) (fun x => x.2.1.length) (fun x => x.1.map (ownI 3)) (fun x => x.2.1.flatMap (ndO 3)) (fun x => x.2.2) (fun x => eSize x.1 x.2.1 ≤ 1048576 ∧ 0 ≤ x.2.2 ∧ x.2.2 ≤ 1000000) (fun x => x.2.2 + tot x.1 + 3 * x.2.1.length + ntot x.2.1) (fun x => (marksII x.2.2 x.1).map (ownI 3)) (fun L => L.flatMap (ndO 3))
set_option maxHeartbeats 4000000 in
theorem markExpr_sound : Sound Try.prog 24 sMarkE := by
  refine sound_of Try.func24 rfl (enters_of Try.func24 (by kernel_rfl) (by kernel_rfl)) ?_
  rintro ⟨xss, ns, m⟩ hpre
  have hpre : xss.length + tot xss + (ns.length + ntot ns) ≤ 1048576 ∧ 0 ≤ m ∧ m ≤ 1000000 := hpre
  conv => whnf
  dsimp only
  repeat' (first
    | (refine aGet_in rfl ?_; conv => whnf)
    | (refine And.intro rfl (And.intro (List.cons_ne_nil _ _) ?_); conv => whnf)
    | (refine markII_call rfl rfl (by omega) ?_; conv => whnf)
    | (refine markN_call rfl rfl (by omega) (fun _ => ?_); conv => whnf))
  rename_i L
  exact retMX2 L (protL_oi _ _) (protL_ond _ _) rfl rfl rfl
theorem markExpr_call {xss : List (List Int)} {ns : List Nd} {m : Int} {env : List AV} {rows : List Row} {ctr low τ1 τ2 v1 v2 n1 n2 : Nat} {k : AV → St → Prop} (h1 : rows[τ1]? = some ⟨v1, 46, 1, xss.map (ownI 3)⟩) (h2 : rows[τ2]? = some ⟨v2, 82, 4, ns.flatMap (ndO 3)⟩) (hne : τ1 ≠ τ2) (e1 : n1 = xss.length) (e2 : n2 = ns.length) (hpre : eSize xss ns ≤ 1048576 ∧ 0 ≤ m ∧ m ≤ 1000000)
    (hk : ∀ L : List Nd, k (.int .i64 (m + tot xss + 3 * ns.length + ntot ns)) ⟨env, setRows rows [τ1, τ2] [(marksII m xss).map (ownI 3), L.flatMap (ndO 3)], ctr + 1, low⟩) : CallG Try.prog 24 ⟨env, rows, ctr, low⟩ [.agg [.ref τ1 v1 0 n1, .ref τ2 v2 0 n2], .int .i64 m] k :=
  callMX2_in markExpr_sound (xss, ns, m) hpre (protL_oi _ _) (protL_ond _ _) (protL_oi _ _) (fun L => protL_ond _ L) h1 h2 hne e1 e2 rfl hk
end Go.Proofs.Ytilimbdpdpfalaa

/- Chapter 3: UsesOf of both sides. -/
namespace Go.Proofs.Ytilimbdpdpfalaa
set_option maxRecDepth 20000
open Go.RowKit Go.Am
set_option linter.unusedSimpArgs false
theorem shTo_form {ins : List (List Int)} {ns : List Nd} {j : Nat} (hf : ¬ formP (ns.getD j default) j ins.length) : shTo ins ns (j + 1) = none := by
  rw [shTo]
  cases shTo ins ns j with
  | none => rfl
  | some s => exact if_neg fun h => hf h.1
theorem shM_form {ins : List (List Int)} {ns : List Nd} (h : (shM ins ns).2 = true) : (1 ≤ ns.length ∧ ns.length ≤ 12) ∧ ∀ j, j < ns.length → formP (ns.getD j default) j ins.length := by
  by_cases hI : insOk ins ∧ 1 ≤ ns.length ∧ ns.length ≤ 12
  · refine ⟨hI.2, fun j hj => ?_⟩
    by_cases hf : formP (ns.getD j default) j ins.length
    · exact hf
    · rw [shM_n (shTo_none (shTo_form hf) _ (by omega))] at h; cases h
  · rw [shM_f hI] at h; cases h
def incAt (us : List Int) (i : Int) : List Int := us.set i.toNat (IntKind.i64.wrap (us.getD i.toNat 0 + 1))
def usN (us : List Int) (x : Nd) : List Int := if pcN x.op = 0 then us else if pcN x.op = 1 then incAt us x.a else incAt (incAt us x.a) x.b
theorem incAt_length (us : List Int) (i : Int) : (incAt us i).length = us.length := by simp [incAt]
theorem usN_length (us : List Int) (x : Nd) : (usN us x).length = us.length := by
  unfold usN; split
  · rfl
  · split <;> simp [incAt_length]
def usTo (ns : List Nd) : Nat → List Int
  | 0 => List.replicate ns.length 0
  | k + 1 => usN (usTo ns k) (ns.getD k default)
theorem usTo_length (ns : List Nd) : ∀ k, (usTo ns k).length = ns.length
  | 0 => by simp [usTo]
  | k + 1 => by rw [usTo, usN_length, usTo_length ns k]
def usL (xss : List (List Int)) (ns : List Nd) : List Int := if (shM xss ns).2 = true then usTo ns ns.length else []
theorem retLM {env : List AV} {rows : List Row} {ctr τ ver : Nat} {t : TypeId} {zs zs' : List Int} {r : Row} {n : Nat} (hz : zs' = zs) (hr : rows[τ]? = some r) (hv : r.ver = ver) (e : r = ⟨ver, t, 1, zs.map (.int .i64)⟩) (hn : n = zs.length) :
    RetB ⟨env, rows, ctr, 0⟩ [] (fun r ic news => r = .ref 0 0 0 zs'.length ∧ ic = [] ∧ news = [⟨0, t, 1, zs'.map (.int .i64)⟩]) (.ref τ ver 0 n) := by
  subst hz; exact retL hr hv e hn
attribute [local irreducible] aPlan aGet aIf aLoop aCall RetB NextB CallB CallG aCut aSet aAppend
def sUses : CSpec := fnL (ι := Nat × List (List Int) × List Nd) 3 (fun | (c, xss, ns) => [.agg [.sl c xss.length (xss.map (slI c)), .sl c ns.length (ns.flatMap (ndC c))]]) (fun | (_, _, ns) => eP ns) (fun | (_, xss, ns) => usL xss ns)
set_option maxHeartbeats 4000000 in
theorem sUsesOf_sound : Sound Try.prog 32 sUses := by
  refine sound_of Try.func32 rfl (enters_of Try.func32 (by kernel_rfl) (by kernel_rfl)) ?_
  rintro ⟨c, xss, ns⟩ hpre
  have hE : eP ns := hpre
  have hmax : maxLen = 9223372036854775807 := rfl
  cases hM : (shM xss ns).2 with
  | false =>
    conv => whnf
    repeat' (first
      | (refine plan_in (id := 9) [0, 1, 2, 3, 4, 5, 6, 7, 8, 9, 10] (by kernel_rfl) (by kernel_rfl) ?_; conv => whnf)
      | (refine plan_in (id := 11) [0, 1, 2, 3, 4, 5, 6, 7, 8, 9, 10] (by kernel_rfl) (by kernel_rfl) ?_; conv => whnf)
      | (refine load_same ?_; conv => whnf)
      | (refine And.intro rfl (And.intro (List.cons_ne_nil _ _) ?_); conv => whnf)
      | (refine And.intro (Nat.le_of_ble_eq_true rfl) ?_; conv => whnf)
      | (refine callG_t ?_; conv => whnf)
      | (refine And.intro (pureL_ii _ _) ?_; conv => whnf)
      | (refine And.intro (pureL_nd _ _) ?_; conv => whnf)
      | (refine sExprOk_call (by first | omega | assumption | (refine ⟨?_, ?_⟩ <;> first | assumption | omega) | (refine ⟨?_, ?_, ?_⟩ <;> first | assumption | omega)) ?_; conv => whnf)
      | (refine takeN_in ?_; conv => whnf)
      | (refine And.intro (by kernel_rfl) ?_; conv => whnf)
      | (refine aIf_ff (by assumption) ?_; conv => whnf)
      | refine aIf_not ?_)
    exact retLM (if_neg (by rw [hM]; decide)) rfl rfl rfl rfl
  | true =>
    obtain ⟨⟨h1, h12⟩, hform⟩ := shM_form hM
    conv => whnf
    repeat' (first
      | (refine plan_in (id := 9) [0, 1, 2, 3, 4, 5, 6, 7, 8, 9, 10] (by kernel_rfl) (by kernel_rfl) ?_; conv => whnf)
      | (refine plan_in (id := 11) [0, 1, 2, 3, 4, 5, 6, 7, 8, 9, 10] (by kernel_rfl) (by kernel_rfl) ?_; conv => whnf)
      | (refine fun (_ : _ ≤ maxLen) => ?_; conv => whnf)
      | (refine aGet_in rfl ?_; conv => whnf)
      | (refine And.intro (And.intro (Int.le_refl _) (And.intro (by kernel_rfl) (And.intro rfl (by kernel_rfl)))) (And.intro (And.intro (by omega) (And.intro (bytes_le (b := 8) rfl (by omega)) (by omega))) ?_); conv => whnf)
      | (refine load_same ?_; conv => whnf)
      | (refine And.intro rfl (And.intro (List.cons_ne_nil _ _) ?_); conv => whnf)
      | (refine And.intro (Nat.le_of_ble_eq_true rfl) ?_; conv => whnf)
      | (refine callG_t ?_; conv => whnf)
      | (refine And.intro (pureL_ii _ _) ?_; conv => whnf)
      | (refine And.intro (pureL_nd _ _) ?_; conv => whnf)
      | (refine sExprOk_call (by first | omega | assumption | (refine ⟨?_, ?_⟩ <;> first | assumption | omega) | (refine ⟨?_, ?_, ?_⟩ <;> first | assumption | omega)) ?_; conv => whnf)
      | (refine takeN_in ?_; conv => whnf)
      | (refine And.intro (by kernel_rfl) ?_; conv => whnf)
      | (refine aIf_tt (by assumption) ?_; conv => whnf)
      | refine aIf_not ?_)
    refine loop_u (ι := Nat) [false, true, false, true, true, false, false, false, false, false, false, false, false, false, false, false, false, false, false, false, false, false, false, false, false, false, false, false, false, false, false, false, false, false, false, false, false, false, false, false, false, false, false, false, false, false, false, false, false, false, false, false, false, false, false, false, false] (fun k => [(4, .int .i64 k)]) (fun k => [(2, (usTo ns k).map (.int .i64))]) (fun k => k ≤ ns.length) (fun k => ns.length - k) (0) (Nat.zero_le _) ?_ ?_
    · conv => whnf
      repeat' (first
        | exact trivial
        | exact rfl
        | exact Or.inl (And.intro rfl rfl)
        | exact le_ints (rep_ints _ _)
        | exact pureL_ii _ _
        | exact pureL_nd _ _
        | refine Or.inr ?_
        | refine And.intro ?_ ?_
        | exact Nat.le_of_ble_eq_true rfl)
    · rintro k hk
      have hk : k ≤ ns.length := hk
      have hl := usTo_length ns k
      by_cases hlt : k < ns.length
      · obtain ⟨f1, f2, f3, f4, f5, f6, f7⟩ := hform k hlt
        by_cases o1 : (ns.getD k default).op = 0 ∨ (ns.getD k default).op = 1
        · have t2 : ¬ twoP3 (ns.getD k default).op := by unfold twoP3; omega
          have t1 : ¬ (6 ≤ (ns.getD k default).op ∧ (ns.getD k default).op ≤ 10) := by omega
          have hn : usTo ns (k + 1) = usTo ns k := if_pos (pcN_0 o1)
          conv => whnf
          repeat' (first
            | (refine plan_in (id := 9) [0, 1, 2, 3, 4, 5, 6, 7, 8, 9, 10] (by kernel_rfl) (by kernel_rfl) ?_; conv => whnf)
            | (refine plan_in (id := 11) [0, 1, 2, 3, 4, 5, 6, 7, 8, 9, 10] (by kernel_rfl) (by kernel_rfl) ?_; conv => whnf)
            | (refine aIf_t ?_; conv => whnf)
            | (refine aIf_f ?_; conv => whnf)
            | (refine fun (_ : _ ≤ maxLen) => ?_; conv => whnf)
            | (refine get_nat0 (by omega) ?_; conv => whnf)
            | (refine get_int0 (by omega) ?_; conv => whnf)
            | (refine aGet_in rfl ?_; conv => whnf)
            | (refine And.intro (by omega) ?_; conv => whnf)
            | (refine And.intro (Nat.le_of_ble_eq_true rfl) ?_; conv => whnf)
            | (refine callG_t ?_; conv => whnf)
            | (refine part_nd_n (by omega) ?_; conv => whnf)
            | (refine l3Two_call trivial ?_; conv => whnf)
            | (refine l3One_call trivial ?_; conv => whnf)
            | (refine And.intro rfl (And.intro rfl (And.intro (by first | omega | (rw [List.length_map]; omega)) ?_)); conv => whnf)
            | (refine set_nat ?_ (by omega); conv => whnf)
            | (refine set_int ?_ (by omega); conv => whnf)
            | (refine set_force ?_; conv => whnf)
            | (refine And.intro (by kernel_rfl) ?_; conv => whnf)
            | refine aIf_eqf ?_
            | (refine aIf_dec (fun _ => ?_) (fun _ => ?_) <;> conv => whnf))
          all_goals (first | (exfalso; omega) | contradiction | skip)
          refine next_u (k + 1) (show ns.length - (k + 1) < ns.length - k by omega) (by exact (by omega : k + 1 ≤ ns.length)) ?_
          conv => whnf
          repeat' (first
            | exact trivial
            | exact rfl
            | exact Or.inl (And.intro rfl rfl)
            | exact pureL_ii _ _
            | exact pureL_nd _ _
            | refine le_ints ?_
            | refine Or.inr ?_
            | refine And.intro ?_ ?_
            | exact Nat.le_of_ble_eq_true rfl
            | exact int_eq (by rw [IntWalk.i64_in _ (by omega)] <;> omega))
          all_goals (first | (rw [hn]; done) | (rw [hn]; rfl) | skip)
        · by_cases o2 : 6 ≤ (ns.getD k default).op ∧ (ns.getD k default).op ≤ 10
          · have t2 : ¬ twoP3 (ns.getD k default).op := by unfold twoP3; omega
            have hn : usTo ns (k + 1) = incAt (usTo ns k) (ns.getD k default).a := by
              show usN _ _ = _
              unfold usN; rw [pcN_1 o2]; rfl
            conv => whnf
            repeat' (first
              | (refine plan_in (id := 9) [0, 1, 2, 3, 4, 5, 6, 7, 8, 9, 10] (by kernel_rfl) (by kernel_rfl) ?_; conv => whnf)
              | (refine plan_in (id := 11) [0, 1, 2, 3, 4, 5, 6, 7, 8, 9, 10] (by kernel_rfl) (by kernel_rfl) ?_; conv => whnf)
              | (refine aIf_t ?_; conv => whnf)
              | (refine aIf_f ?_; conv => whnf)
              | (refine fun (_ : _ ≤ maxLen) => ?_; conv => whnf)
              | (refine get_nat0 (by omega) ?_; conv => whnf)
              | (refine get_int0 (by omega) ?_; conv => whnf)
              | (refine aGet_in rfl ?_; conv => whnf)
              | (refine And.intro (by omega) ?_; conv => whnf)
              | (refine And.intro (Nat.le_of_ble_eq_true rfl) ?_; conv => whnf)
              | (refine callG_t ?_; conv => whnf)
              | (refine part_nd_n (by omega) ?_; conv => whnf)
              | (refine l3Two_call trivial ?_; conv => whnf)
              | (refine l3One_call trivial ?_; conv => whnf)
              | (refine And.intro rfl (And.intro rfl (And.intro (by first | omega | (rw [List.length_map]; omega)) ?_)); conv => whnf)
              | (refine set_nat ?_ (by omega); conv => whnf)
              | (refine set_int ?_ (by omega); conv => whnf)
              | (refine set_force ?_; conv => whnf)
              | (refine And.intro (by kernel_rfl) ?_; conv => whnf)
              | refine aIf_eqf ?_
              | (refine aIf_dec (fun _ => ?_) (fun _ => ?_) <;> conv => whnf))
            all_goals (first | (exfalso; omega) | contradiction | skip)
            refine next_u (k + 1) (show ns.length - (k + 1) < ns.length - k by omega) (by exact (by omega : k + 1 ≤ ns.length)) ?_
            conv => whnf
            repeat' (first
              | exact trivial
              | exact rfl
              | exact Or.inl (And.intro rfl rfl)
              | exact pureL_ii _ _
              | exact pureL_nd _ _
              | refine le_ints ?_
              | refine Or.inr ?_
              | refine And.intro ?_ ?_
              | exact Nat.le_of_ble_eq_true rfl
              | exact int_eq (by rw [IntWalk.i64_in _ (by omega)] <;> omega))
            all_goals (first | (rw [hn]; done) | (rw [hn]; rfl) | skip)
          · have t2 : twoP3 (ns.getD k default).op := by unfold twoP3; omega
            have hn : usTo ns (k + 1) = incAt (incAt (usTo ns k) (ns.getD k default).a) (ns.getD k default).b := by
              show usN _ _ = _
              unfold usN; rw [pcN_2 o1 o2]; rfl
            have hl' : ((usTo ns k).set (ns.getD k default).a.toNat (IntKind.i64.wrap ((usTo ns k).getD (ns.getD k default).a.toNat 0 + 1))).length = ns.length := by rw [List.length_set]; exact hl
            conv => whnf
            repeat' (first
              | (refine plan_in (id := 9) [0, 1, 2, 3, 4, 5, 6, 7, 8, 9, 10] (by kernel_rfl) (by kernel_rfl) ?_; conv => whnf)
              | (refine plan_in (id := 11) [0, 1, 2, 3, 4, 5, 6, 7, 8, 9, 10] (by kernel_rfl) (by kernel_rfl) ?_; conv => whnf)
              | (refine aIf_t ?_; conv => whnf)
              | (refine aIf_f ?_; conv => whnf)
              | (refine fun (_ : _ ≤ maxLen) => ?_; conv => whnf)
              | (refine get_nat0 (by omega) ?_; conv => whnf)
              | (refine get_int0 (by omega) ?_; conv => whnf)
              | (refine aGet_in rfl ?_; conv => whnf)
              | (refine And.intro (by omega) ?_; conv => whnf)
              | (refine And.intro (Nat.le_of_ble_eq_true rfl) ?_; conv => whnf)
              | (refine callG_t ?_; conv => whnf)
              | (refine part_nd_n (by omega) ?_; conv => whnf)
              | (refine l3Two_call trivial ?_; conv => whnf)
              | (refine l3One_call trivial ?_; conv => whnf)
              | (refine And.intro rfl (And.intro rfl (And.intro (by first | omega | (rw [List.length_map]; omega)) ?_)); conv => whnf)
              | (refine set_nat ?_ (by omega); conv => whnf)
              | (refine set_int ?_ (by omega); conv => whnf)
              | (refine set_force ?_; conv => whnf)
              | (refine And.intro (by kernel_rfl) ?_; conv => whnf)
              | refine aIf_eqf ?_
              | (refine aIf_dec (fun _ => ?_) (fun _ => ?_) <;> conv => whnf))
            all_goals (first | (exfalso; omega) | contradiction | skip)
            refine next_u (k + 1) (show ns.length - (k + 1) < ns.length - k by omega) (by exact (by omega : k + 1 ≤ ns.length)) ?_
            conv => whnf
            repeat' (first
              | exact trivial
              | exact rfl
              | exact Or.inl (And.intro rfl rfl)
              | exact pureL_ii _ _
              | exact pureL_nd _ _
              | refine le_ints ?_
              | refine Or.inr ?_
              | refine And.intro ?_ ?_
              | exact Nat.le_of_ble_eq_true rfl
              | exact int_eq (by rw [IntWalk.i64_in _ (by omega)] <;> omega))
            all_goals (first | (rw [hn]; done) | (rw [hn]; rfl) | skip)
      · conv => whnf
        repeat' (first
          | (refine plan_in (id := 9) [0, 1, 2, 3, 4, 5, 6, 7, 8, 9, 10] (by kernel_rfl) (by kernel_rfl) ?_; conv => whnf)
          | (refine plan_in (id := 11) [0, 1, 2, 3, 4, 5, 6, 7, 8, 9, 10] (by kernel_rfl) (by kernel_rfl) ?_; conv => whnf)
          | (refine aIf_t ?_; conv => whnf)
          | (refine aIf_f ?_; conv => whnf)
          | (refine fun (_ : _ ≤ maxLen) => ?_; conv => whnf)
          | (refine get_nat0 (by omega) ?_; conv => whnf)
          | (refine aGet_in rfl ?_; conv => whnf)
          | (refine And.intro (by omega) ?_; conv => whnf)
          | (refine callG_t ?_; conv => whnf)
          | (refine part_nd_n (by omega) ?_; conv => whnf)
          | (refine l3Two_call trivial ?_; conv => whnf)
          | (refine l3One_call trivial ?_; conv => whnf)
          | (refine set_nat ?_ (by omega); conv => whnf)
          | (refine set_force ?_; conv => whnf)
          | refine aIf_eqf ?_
          | (refine aIf_dec (fun _ => ?_) (fun _ => ?_) <;> conv => whnf))
        all_goals (first | (exfalso; omega) | contradiction | skip)
        have he : k = ns.length := by omega
        subst he
        exact retLM (if_pos hM) rfl rfl rfl (by rw [hl]; rfl)
end Go.Proofs.Ytilimbdpdpfalaa

/- Chapter 3: UsesOf of the program. -/
namespace Go.Proofs.Ytilimbdpdpfalaa
set_option maxRecDepth 20000
open Go.RowKit Go.Am
set_option linter.unusedSimpArgs false
attribute [local irreducible] aPlan aGet aIf aLoop aCall RetB NextB CallB CallG aCut aSet aAppend

def usP (us : List Int) (x : Nd) : Nat → List Int
  | 0 => us
  | j + 1 => incAt (usP us x j) (([x.a, x.b] : List Int).getD j 0)
theorem usP_length (us : List Int) (x : Nd) : ∀ j, (usP us x j).length = us.length
  | 0 => rfl
  | j + 1 => by rw [usP, incAt_length, usP_length us x j]
theorem usP_all {us : List Int} {x : Nd} {j : Nat} (h : (j : Int) = pcN x.op) : usN us x = usP us x j := by
  rcases pcN_cases x.op with ⟨h1, -⟩ | ⟨h1, -⟩ | ⟨h1, -⟩
  · have : j = 0 := by omega
    subst this; unfold usN; rw [if_pos h1]; rfl
  · have : j = 1 := by omega
    subst this; unfold usN; rw [if_neg (by omega), if_pos h1]; rfl
  · have : j = 2 := by omega
    subst this; unfold usN; rw [if_neg (by omega), if_neg (by omega)]; rfl
theorem parts_in {x : Nd} {k n : Nat} {m : Int} (hf : formP x k m) (hk : k < n) : ∀ j : Nat, (j : Int) < pcN x.op → 0 ≤ ([x.a, x.b] : List Int).getD j 0 ∧ ([x.a, x.b] : List Int).getD j 0 < n := by
  obtain ⟨f1, f2, f3, f4, f5, f6, f7⟩ := hf
  intro j hj
  rcases pcN_cases x.op with ⟨h1, h2⟩ | ⟨h1, h2⟩ | ⟨h1, h2, h3⟩
  · omega
  · have : j = 0 := by omega
    subst this
    show 0 ≤ x.a ∧ x.a < n
    omega
  · have : j = 0 ∨ j = 1 := by omega
    rcases this with rfl | rfl
    · show 0 ≤ x.a ∧ x.a < n
      omega
    · show 0 ≤ x.b ∧ x.b < n
      omega
theorem pcN_le2 (op : Int) : pcN op ≤ 2 ∧ 0 ≤ pcN op := by rcases pcN_cases op with h | h | h <;> omega
theorem usL_length (xss : List (List Int)) (ns : List Nd) : (usL xss ns).length ≤ 12 := by
  unfold usL; split
  · rename_i h
    have := (shM_form h).1
    rw [usTo_length]; exact this.2
  · exact Nat.zero_le _
set_option maxHeartbeats 4000000 in
theorem iUsesOf_sound : Sound Try.prog 33 sUses := by
  refine sound_of Try.func33 rfl (enters_of Try.func33 (by kernel_rfl) (by kernel_rfl)) ?_
  rintro ⟨c, xss, ns⟩ hpre
  have hE : eP ns := hpre
  have hmax : maxLen = 9223372036854775807 := rfl
  cases hM : (shM xss ns).2 with
  | false =>
    conv => whnf
    repeat' (first
      | (refine load_same ?_; conv => whnf)
      | (refine And.intro rfl (And.intro (List.cons_ne_nil _ _) ?_); conv => whnf)
      | (refine And.intro (Nat.le_of_ble_eq_true rfl) ?_; conv => whnf)
      | (refine callG_t ?_; conv => whnf)
      | (refine And.intro (pureL_ii _ _) ?_; conv => whnf)
      | (refine And.intro (pureL_nd _ _) ?_; conv => whnf)
      | (refine iExprOk_call (by first | omega | assumption | (refine ⟨?_, ?_⟩ <;> first | assumption | omega) | (refine ⟨?_, ?_, ?_⟩ <;> first | assumption | omega)) ?_; conv => whnf)
      | (refine takeN_in ?_; conv => whnf)
      | (refine And.intro (by kernel_rfl) ?_; conv => whnf)
      | (refine aIf_ff (by assumption) ?_; conv => whnf)
      | refine aIf_not ?_)
    exact retLM (if_neg (by rw [hM]; decide)) rfl rfl rfl rfl
  | true =>
    obtain ⟨⟨h1, h12⟩, hform⟩ := shM_form hM
    conv => whnf
    repeat' (first
      | (refine fun (_ : _ ≤ maxLen) => ?_; conv => whnf)
      | (refine aGet_in rfl ?_; conv => whnf)
      | (refine And.intro (And.intro (Int.le_refl _) (And.intro (by kernel_rfl) (And.intro rfl (by kernel_rfl)))) (And.intro (And.intro (by omega) (And.intro (bytes_le (b := 8) rfl (by omega)) (by omega))) ?_); conv => whnf)
      | (refine load_same ?_; conv => whnf)
      | (refine And.intro rfl (And.intro (List.cons_ne_nil _ _) ?_); conv => whnf)
      | (refine And.intro (Nat.le_of_ble_eq_true rfl) ?_; conv => whnf)
      | (refine callG_t ?_; conv => whnf)
      | (refine And.intro (pureL_ii _ _) ?_; conv => whnf)
      | (refine And.intro (pureL_nd _ _) ?_; conv => whnf)
      | (refine iExprOk_call (by first | omega | assumption | (refine ⟨?_, ?_⟩ <;> first | assumption | omega) | (refine ⟨?_, ?_, ?_⟩ <;> first | assumption | omega)) ?_; conv => whnf)
      | (refine takeN_in ?_; conv => whnf)
      | (refine And.intro (by kernel_rfl) ?_; conv => whnf)
      | (refine aIf_tt (by assumption) ?_; conv => whnf)
      | refine aIf_not ?_)
    refine loop_u (ι := Nat) [false, false, false, true, false, false, false, false, false, false, false, false, false, false, false, false, true, true, true, false, false, false, false, false, false, false, false, false, false, false, false, false, false, false, false, false, false, false] (fun k => [(18, .int .i64 k)]) (fun k => [(2, (usTo ns k).map (.int .i64))]) (fun k => k ≤ ns.length) (fun k => ns.length - k) (0) (Nat.zero_le _) ?_ ?_
    · conv => whnf
      repeat' (first
        | exact trivial
        | exact rfl
        | exact Or.inl (And.intro rfl rfl)
        | exact le_ints (rep_ints _ _)
        | exact pureL_ii _ _
        | exact pureL_nd _ _
        | refine Or.inr ?_
        | refine And.intro ?_ ?_
        | exact Nat.le_of_ble_eq_true rfl)
    · rintro k hk
      have hk : k ≤ ns.length := hk
      have hl := usTo_length ns k
      by_cases hlt : k < ns.length
      · have hp := parts_in (hform k hlt) hlt
        have hpc := pcN_le2 (ns.getD k default).op
        have hlen : ([(ns.getD k default).a, (ns.getD k default).b] : List Int).length = 2 := rfl
        conv => whnf
        repeat' (first
          | (refine fun (_ : _ ≤ maxLen) => ?_; conv => whnf)
          | (refine And.intro (by omega) ?_; conv => whnf)
          | (refine load_same ?_; conv => whnf)
          | (refine And.intro (Nat.le_of_ble_eq_true rfl) ?_; conv => whnf)
          | (refine callG_t ?_; conv => whnf)
          | (refine part_nd_n (by omega) ?_; conv => whnf)
          | (refine partsOf_call ?_; conv => whnf)
          | (refine takeN_in ?_; conv => whnf)
          | (refine And.intro (pureL_ints _ _) ?_; conv => whnf)
          | (refine set_force ?_; conv => whnf)
          | (refine And.intro (by kernel_rfl) ?_; conv => whnf)
          | (refine aIf_dec (fun _ => ?_) (fun _ => ?_) <;> conv => whnf))
        all_goals (first | (exfalso; omega) | skip)
        refine loop_u (ι := Nat) [false, false, false, true, false, false, false, false, false, false, false, false, false, false, false, false, true, true, true, false, false, false, false, true, true, true, false, false, false, false, false, false, false, false, false, false, false, false] (fun j => [(25, .int .i64 j)]) (fun j => [(2, (usP (usTo ns k) (ns.getD k default) j).map (.int .i64))]) (fun j => (j : Int) ≤ pcN (ns.getD k default).op) (fun j => 2 - j) (0) (by omega) ?_ ?_
        · conv => whnf
          repeat' (first
            | exact trivial
            | exact rfl
            | exact pureL_ints _ _
            | exact Or.inl (And.intro rfl rfl)
            | exact le_ints rfl
            | exact pureL_ii _ _
            | exact pureL_nd _ _
            | refine Or.inr ?_
            | refine And.intro ?_ ?_
            | exact Nat.le_of_ble_eq_true rfl)
        · rintro j hj
          have hj : (j : Int) ≤ pcN (ns.getD k default).op := hj
          have hul := usP_length (usTo ns k) (ns.getD k default) j
          by_cases hjl : (j : Int) < pcN (ns.getD k default).op
          · have hpj := hp j hjl
            conv => whnf
            repeat' (first
              | (refine get_nat0 (by omega) ?_; conv => whnf)
              | (refine get_int0 (by omega) ?_; conv => whnf)
              | (refine And.intro (by omega) ?_; conv => whnf)
              | (refine And.intro rfl (And.intro rfl (And.intro (by first | omega | (rw [List.length_map]; omega)) ?_)); conv => whnf)
              | (refine set_int ?_ (by omega); conv => whnf)
              | (refine aIf_dec (fun _ => ?_) (fun _ => ?_) <;> conv => whnf))
            all_goals (first | (exfalso; omega) | skip)
            refine next_u (j + 1) (show 2 - (j + 1) < 2 - j by omega) (by show ((j + 1 : Nat) : Int) ≤ _; omega) ?_
            conv => whnf
            repeat' (first
              | exact trivial
              | exact rfl
              | exact pureL_ints _ _
              | exact Or.inl (And.intro rfl rfl)
              | exact le_ints rfl
              | exact pureL_ii _ _
              | exact pureL_nd _ _
              | refine Or.inr ?_
              | refine And.intro ?_ ?_
              | exact Nat.le_of_ble_eq_true rfl
              | exact int_eq (by rw [IntWalk.i64_in _ (by omega)] <;> omega))
          · have hn : usTo ns (k + 1) = usP (usTo ns k) (ns.getD k default) j := usP_all (by omega)
            conv => whnf
            repeat' (first
              | (refine get_nat0 (by omega) ?_; conv => whnf)
              | (refine And.intro (by omega) ?_; conv => whnf)
              | (refine set_nat ?_ (by omega); conv => whnf)
              | (refine aIf_dec (fun _ => ?_) (fun _ => ?_) <;> conv => whnf))
            all_goals (first | (exfalso; omega) | skip)
            refine next_u (k + 1) (show ns.length - (k + 1) < ns.length - k by omega) (by exact (by omega : k + 1 ≤ ns.length)) ?_
            conv => whnf
            repeat' (first
              | exact trivial
              | exact rfl
              | exact Or.inl (And.intro rfl rfl)
              | exact pureL_ii _ _
              | exact pureL_nd _ _
              | refine le_ints ?_
              | refine Or.inr ?_
              | refine And.intro ?_ ?_
              | exact Nat.le_of_ble_eq_true rfl
              | exact int_eq (by rw [IntWalk.i64_in _ (by omega)] <;> omega))
            all_goals (first | (rw [hn]; done) | (rw [hn]; rfl) | skip)
      · conv => whnf
        repeat' (first
          | (refine fun (_ : _ ≤ maxLen) => ?_; conv => whnf)
          | (refine And.intro (by omega) ?_; conv => whnf)
          | (refine load_same ?_; conv => whnf)
          | (refine callG_t ?_; conv => whnf)
          | (refine part_nd_n (by omega) ?_; conv => whnf)
          | (refine partsOf_call ?_; conv => whnf)
          | (refine takeN_in ?_; conv => whnf)
          | (refine set_force ?_; conv => whnf)
          | (refine aIf_dec (fun _ => ?_) (fun _ => ?_) <;> conv => whnf))
        all_goals (first | (exfalso; omega) | contradiction | skip)
        have he : k = ns.length := by omega
        subst he
        exact retLM (if_pos hM) rfl rfl rfl (by rw [hl]; rfl)
theorem sUsesOf_call {c : Nat} {xss : List (List Int)} {ns : List Nd} {env : List AV} {rows : List Row} {ctr low : Nat} {k : AV → St → Prop} (hpre : eP ns) (h : k (.ref rows.length ctr 0 (usL xss ns).length) ⟨env, rows ++ [⟨ctr, 3, 1, (usL xss ns).map (.int .i64)⟩], ctr + 1, low⟩) :
    CallB Try.prog 32 ⟨env, rows, ctr, low⟩ [.agg [.sl c xss.length (xss.map (slI c)), .sl c ns.length (ns.flatMap (ndC c))]] k := callL_in sUsesOf_sound (c, xss, ns) hpre h
theorem iUsesOf_call {c : Nat} {xss : List (List Int)} {ns : List Nd} {env : List AV} {rows : List Row} {ctr low : Nat} {k : AV → St → Prop} (hpre : eP ns) (h : k (.ref rows.length ctr 0 (usL xss ns).length) ⟨env, rows ++ [⟨ctr, 3, 1, (usL xss ns).map (.int .i64)⟩], ctr + 1, low⟩) :
    CallB Try.prog 33 ⟨env, rows, ctr, low⟩ [.agg [.sl c xss.length (xss.map (slI c)), .sl c ns.length (ns.flatMap (ndC c))]] k := callL_in iUsesOf_sound (c, xss, ns) hpre h
end Go.Proofs.Ytilimbdpdpfalaa

/- Chapter 3: rows of bools in the laws; NeededOf of both sides. -/
namespace Go.Proofs.Ytilimbdpdpfalaa
set_option maxRecDepth 20000
open Go.RowKit Go.Am
set_option linter.unusedSimpArgs false
attribute [local irreducible] aPlan aGet aIf aLoop aCall RetB NextB CallB CallG aCut aSet aAppend

theorem eqBoolS_sound : Sound Try.prog 39 (fnS (ι := Nat × List Bool × Nat × List Bool) (fun | (c, xs, d, ys) => [.sl c xs.length (xs.map .bool), .sl d ys.length (ys.map .bool)]) (fun _ => True) (fun | (_, xs, _, ys) => .bool (decide (xs = ys)))) := by
  refine sound_of Try.func39 rfl (enters_of Try.func39 (by kernel_rfl) (by kernel_rfl)) ?_
  rintro ⟨c, xs, d, ys⟩ -
  have hmax : maxLen = 9223372036854775807 := rfl
  conv => whnf
  repeat' (first
    | (refine plan_in (id := 6) [0, 1, 2, 3, 4, 5, 6, 7, 8] (by kernel_rfl) (by kernel_rfl) ?_; conv => whnf)
    | (refine fun (_ : _ ≤ maxLen) => ?_; conv => whnf)
    | refine aIf_not ?_
    | (refine aIf_dec (fun _ => ?_) (fun _ => ?_) <;> conv => whnf))
  · have hl : ys.length = xs.length := by omega
    refine loop_u (ι := Nat) [true, true, false, false, false, true, false, false, false, false, false, false, false, false, false, false, false, false, false, false, false, false, false, false, false, false] (fun k => [(5, .int .i64 k)]) (fun _ => []) (fun k => k ≤ xs.length ∧ ∀ j, j < k → xs.getD j false = ys.getD j false) (fun k => xs.length - k) (0) ⟨Nat.zero_le _, fun j hj => absurd hj (Nat.not_lt_zero _)⟩ ?_ ?_
    · conv => whnf
      repeat' (first
        | exact trivial
        | exact rfl
        | exact pureL_bools _
        | refine And.intro ?_ ?_
        | exact Nat.le_of_ble_eq_true rfl)
    · rintro k ⟨hk, hall⟩
      conv => whnf
      repeat' (first
        | (refine plan_in (id := 6) [0, 1, 2, 3, 4, 5, 6, 7, 8] (by kernel_rfl) (by kernel_rfl) ?_; conv => whnf)
        | (refine fun (_ : _ ≤ maxLen) => ?_; conv => whnf)
        | (refine And.intro (by omega) ?_; conv => whnf)
        | (refine getb_n (by omega) ?_; conv => whnf)
        | (refine And.intro (by kernel_rfl) ?_; conv => whnf)
        | refine aIf_not ?_
        | (refine aIf_dec (fun _ => ?_) (fun _ => ?_) <;> conv => whnf))
      · refine next_u (k + 1) (by omega) ⟨by omega, fun j hj => ?_⟩ ?_
        · rcases Nat.lt_succ_iff_lt_or_eq.1 hj with h1 | rfl
          · exact hall j h1
          · assumption
        · conv => whnf
          repeat' (first
            | exact trivial
            | exact rfl
            | exact pureL_bools _
            | refine And.intro ?_ ?_
            | exact Nat.le_of_ble_eq_true rfl
            | exact int_eq (by rw [IntWalk.i64_in _ (by omega)] <;> omega))
      · refine retS rfl (congrArg AV.bool ?_)
        symm; rw [decide_eq_false_iff_not]; rintro rfl; contradiction
      · refine retS rfl (congrArg AV.bool ?_)
        symm; rw [decide_eq_true_iff]
        exact getD_extG (d := false) (by omega) fun j hj => hall j (by omega)
  · refine retS rfl (congrArg AV.bool ?_)
    symm; rw [decide_eq_false_iff_not]; rintro rfl; omega
theorem eqBoolS_call {c d : Nat} {xs ys : List Bool} {env : List AV} {rows : List Row} {ctr low : Nat} {k : AV → St → Prop} (hpre : True) (h : k (.bool (decide (xs = ys))) ⟨env, rows, ctr + 1, low⟩) :
    CallB Try.prog 39 ⟨env, rows, ctr, low⟩ [.sl c xs.length (xs.map .bool), .sl d ys.length (ys.map .bool)] k := callS_in eqBoolS_sound (c, xs, d, ys) hpre rfl h
def marksB (m : Int) (n : Nat) : List Bool := (List.range n).map fun (j : Nat) => ((m + (j : Int)).tmod 3 == 0)
theorem marksB_length (m : Int) (n : Nat) : (marksB m n).length = n := by simp [marksB]
theorem marksB_getD {m : Int} {n j : Nat} (h : j < n) : (marksB m n).getD j false = ((m + (j : Int)).tmod 3 == 0) := by
  simp [marksB, List.getD, List.getElem?_map, List.getElem?_range h]
def sMarkB : CSpec := fnMR (ι := List Bool × Int) 4 1 (fun x => x.1.length) (fun x => x.1.map .bool) (fun x => x.2) (fun x => x.1.length ≤ 1048576 ∧ 0 ≤ x.2 ∧ x.2 ≤ 100000000000) (fun x => x.2 + x.1.length) (fun x => (marksB x.2 x.1.length).map .bool)
theorem markBoolS_sound : Sound Try.prog 40 sMarkB := by
  refine sound_of Try.func40 rfl (enters_of Try.func40 (by kernel_rfl) (by kernel_rfl)) ?_
  rintro ⟨bs, m⟩ hpre
  have hpre : bs.length ≤ 1048576 ∧ 0 ≤ m ∧ m ≤ 100000000000 := hpre
  have hmax : maxLen = 9223372036854775807 := rfl
  conv => whnf
  dsimp only
  repeat' (first
    | (refine aIf_t ?_; conv => whnf))
  refine loop_u (ι := Nat × List Bool) [true, true, false, false, false, true, false, false, false, false, false, false, false, false, false, false, false, false, false, false, false] (fun | (k, _) => [(1, .int .i64 (m + k)), (5, .int .i64 k)]) (fun | (_, L) => [(0, L.map .bool)]) (fun | (k, L) => k ≤ bs.length ∧ L.length = bs.length ∧ ∀ j, j < k → L.getD j false = (marksB m bs.length).getD j false) (fun x => bs.length - x.1) ((0, bs)) ⟨Nat.zero_le _, rfl, fun j hj => absurd hj (Nat.not_lt_zero _)⟩ ?_ ?_
  · conv => whnf
    repeat' (first
      | exact trivial
      | exact rfl
      | exact le_bools rfl
      | refine And.intro ?_ ?_
      | exact Nat.le_of_ble_eq_true rfl
      | exact int_eq (by omega))
  · rintro ⟨k, L⟩ ⟨hk, hL, hall⟩
    have hk : k ≤ bs.length := hk
    have hL : L.length = bs.length := hL
    have hall : ∀ j, j < k → L.getD j false = (marksB m bs.length).getD j false := hall
    by_cases hlt : k < bs.length
    · conv => whnf
      repeat' (first
        | (refine fun (_ : _ ≤ maxLen) => ?_; conv => whnf)
        | (refine And.intro (by omega) ?_; conv => whnf)
        | (refine setb_n ?_ (by omega); conv => whnf)
        | (refine And.intro rfl (And.intro rfl (And.intro (by first | omega | (rw [List.length_map]; omega)) ?_)); conv => whnf)
        | (refine aIf_dec (fun _ => ?_) (fun _ => ?_) <;> conv => whnf))
      all_goals (first | (exfalso; omega) | skip)
      refine next_u (k + 1, L.set k ((m + (k : Int)).tmod 3 == 0)) (show bs.length - (k + 1) < bs.length - k by omega) ⟨(by omega : k + 1 ≤ bs.length), (by rw [List.length_set]; exact hL : (L.set k _).length = bs.length), fun j hj => ?_⟩ ?_
      · have hj : j < k + 1 := hj
        show (L.set k _).getD j false = _
        rw [getD_setG (by omega)]
        split
        · rename_i e; rw [← e, marksB_getD hlt]
        · exact hall j (by omega)
      · conv => whnf
        repeat' (first
          | exact trivial
          | exact rfl
          | exact le_bools rfl
          | refine And.intro ?_ ?_
          | exact Nat.le_of_ble_eq_true rfl
          | exact int_eq (by rw [IntWalk.i64_in _ (by omega)] <;> omega))
    · have e : k = bs.length := by omega
      have eL : L = marksB m bs.length := getD_extG (d := false) (by rw [marksB_length]; exact hL) fun j hj => hall j (by rw [marksB_length] at hj; omega)
      conv => whnf
      repeat' (first
        | (refine fun (_ : _ ≤ maxLen) => ?_; conv => whnf)
        | (refine And.intro (by omega) ?_; conv => whnf)
        | (refine setb_n ?_ (by omega); conv => whnf)
        | (refine aIf_dec (fun _ => ?_) (fun _ => ?_) <;> conv => whnf))
      all_goals (first | (exfalso; omega) | skip)
      exact retMR (protL_bools _) (by rw [e]) (by rw [eL])
theorem markBoolS_call {bs : List Bool} {m : Int} {env : List AV} {rows : List Row} {ctr low τ ver n : Nat} {k : AV → St → Prop} (hr : rows[τ]? = some ⟨ver, 4, 1, bs.map .bool⟩) (hn : n = bs.length) (hpre : bs.length ≤ 1048576 ∧ 0 ≤ m ∧ m ≤ 100000000000)
    (hk : k (.int .i64 (m + bs.length)) ⟨env, setRows rows [τ] [(marksB m bs.length).map .bool], ctr + 1, low⟩) : CallG Try.prog 40 ⟨env, rows, ctr, low⟩ [.ref τ ver 0 n, .int .i64 m] k :=
  callMR_in markBoolS_sound (bs, m) hpre (protL_bools _) (protL_bools _) hr hn rfl hk
theorem heldBoolS_sound : Sound Try.prog 41 (fnS (ι := Nat × Nat × Int) (fun | (c, n, m) => [.sl c n ((marksB m n).map .bool), .int .i64 m]) (fun | (_, n, m) => n ≤ 1048576 ∧ 0 ≤ m ∧ m ≤ 100000000000) (fun | (_, n, m) => .int .i64 (m + n))) := by
  refine sound_of Try.func41 rfl (enters_of Try.func41 (by kernel_rfl) (by kernel_rfl)) ?_
  rintro ⟨c, n, m⟩ hpre
  have hpre : n ≤ 1048576 ∧ 0 ≤ m ∧ m ≤ 100000000000 := hpre
  have hmax : maxLen = 9223372036854775807 := rfl
  have hln := marksB_length m n
  conv => whnf
  repeat' (first
    | (refine aIf_t ?_; conv => whnf))
  refine loop_u (ι := Nat) [true, true, false, false, false, true, false, false, false, false, false, false, false, false, false, false, false, false, false, false, false, false, false] (fun k => [(1, .int .i64 (m + k)), (5, .int .i64 k)]) (fun _ => []) (fun k => k ≤ n) (fun k => n - k) (0) (Nat.zero_le _) ?_ ?_
  · conv => whnf
    repeat' (first
      | exact trivial
      | exact rfl
      | exact pureL_bools _
      | refine And.intro ?_ ?_
      | exact Nat.le_of_ble_eq_true rfl
      | exact int_eq (by omega))
  · rintro k hk
    have hk : k ≤ n := hk
    by_cases hlt : k < n
    · have hg := marksB_getD (m := m) hlt
      conv => whnf
      repeat' (first
        | (refine fun (_ : _ ≤ maxLen) => ?_; conv => whnf)
        | (refine And.intro (by omega) ?_; conv => whnf)
        | (refine getb_n (by omega) ?_; conv => whnf)
        | (refine And.intro (by kernel_rfl) ?_; conv => whnf)
        | refine aIf_not ?_
        | (refine aIf_dec (fun _ => ?_) (fun _ => ?_) <;> conv => whnf))
      all_goals (first | (exfalso; omega) | (exfalso; contradiction) | skip)
      refine next_u (k + 1) (show n - (k + 1) < n - k by omega) (by exact (by omega : k + 1 ≤ n)) ?_
      conv => whnf
      repeat' (first
        | exact trivial
        | exact rfl
        | exact pureL_bools _
        | refine And.intro ?_ ?_
        | exact Nat.le_of_ble_eq_true rfl
        | exact int_eq (by rw [IntWalk.i64_in _ (by omega)] <;> omega))
    · conv => whnf
      repeat' (first
        | (refine fun (_ : _ ≤ maxLen) => ?_; conv => whnf)
        | (refine And.intro (by omega) ?_; conv => whnf)
        | (refine getb_n (by omega) ?_; conv => whnf)
        | refine aIf_not ?_
        | (refine aIf_dec (fun _ => ?_) (fun _ => ?_) <;> conv => whnf))
      all_goals (first | (exfalso; omega) | skip)
      exact retS rfl (int_eq (by omega))
theorem heldBoolS_call {c n' n : Nat} {m : Int} {env : List AV} {rows : List Row} {ctr low : Nat} {k : AV → St → Prop} (hn : n' = n) (hpre : n ≤ 1048576 ∧ 0 ≤ m ∧ m ≤ 100000000000) (h : k (.int .i64 (m + n)) ⟨env, rows, ctr + 1, low⟩) :
    CallB Try.prog 41 ⟨env, rows, ctr, low⟩ [.sl c n' ((marksB m n).map .bool), .int .i64 m] k := by
  subst hn
  exact callS_in heldBoolS_sound (c, n', m) hpre rfl h
theorem cut_marksB {m : Int} {n : Nat} {k : List AV → Prop} {f : Nat} (hk : k ((marksB m n).map .bool)) : aCut (f + 1) ((marksB m n).map .bool) 0 (n * 1) k := cut_all (by simp [marksB_length]) (scalL_bools _) hk

/-! NeededOf. -/
def neStep (bs : List Bool) (x : Nd) : Nat → List Bool
  | 0 => bs
  | j + 1 => (neStep bs x j).set (([x.a, x.b] : List Int).getD j 0).toNat true
theorem neStep_length (bs : List Bool) (x : Nd) : ∀ j, (neStep bs x j).length = bs.length
  | 0 => rfl
  | j + 1 => by rw [neStep, List.length_set, neStep_length bs x j]
def neAt (ns : List Nd) : Nat → List Bool
  | 0 => (List.replicate ns.length false).set (ns.length - 1) true
  | m + 1 => if (neAt ns m).getD (ns.length - 1 - m) false = true then neStep (neAt ns m) (ns.getD (ns.length - 1 - m) default) (pcN (ns.getD (ns.length - 1 - m) default).op).toNat else neAt ns m
theorem neAt_length (ns : List Nd) : ∀ m, (neAt ns m).length = ns.length
  | 0 => by simp [neAt]
  | m + 1 => by
    unfold neAt; split
    · rw [neStep_length, neAt_length ns m]
    · exact neAt_length ns m
def neI (ns : List Nd) (i : Int) : List Bool := neAt ns ((ns.length : Int) - 1 - i).toNat
theorem neI_length (ns : List Nd) (i : Int) : (neI ns i).length = ns.length := neAt_length _ _
theorem neI_next {ns : List Nd} {i : Int} (h0 : 0 ≤ i) (h1 : i < ns.length) : neI ns (i - 1) = if (neI ns i).getD i.toNat false = true then neStep (neI ns i) (ns.getD i.toNat default) (pcN (ns.getD i.toNat default).op).toNat else neI ns i := by
  unfold neI
  have e : ((ns.length : Int) - 1 - (i - 1)).toNat = ((ns.length : Int) - 1 - i).toNat + 1 := by omega
  have e' : ns.length - 1 - ((ns.length : Int) - 1 - i).toNat = i.toNat := by omega
  rw [e, neAt, e']
theorem neI_t {ns : List Nd} {i : Int} (h0 : 0 ≤ i) (h1 : i < ns.length) (hb : (neI ns i).getD i.toNat false = true) : neI ns (i - 1) = neStep (neI ns i) (ns.getD i.toNat default) (pcN (ns.getD i.toNat default).op).toNat := by
  rw [neI_next h0 h1, if_pos hb]
theorem neI_f {ns : List Nd} {i : Int} (h0 : 0 ≤ i) (h1 : i < ns.length) (hb : (neI ns i).getD i.toNat false = false) : neI ns (i - 1) = neI ns i := by
  rw [neI_next h0 h1, if_neg (by rw [hb]; decide)]
def neL (xss : List (List Int)) (ns : List Nd) : List Bool := if (shM xss ns).2 = true then neI ns (-1) else []
theorem neL_length (xss : List (List Int)) (ns : List Nd) : (neL xss ns).length ≤ 12 := by
  unfold neL; split
  · rename_i h
    have := (shM_form h).1
    rw [neI_length]; exact this.2
  · exact Nat.zero_le _
theorem retBM {env : List AV} {rows : List Row} {ctr τ ver m : Nat} {t : TypeId} {zs zs' : List Bool} (hz : zs' = zs) (hr : rows[τ]? = some ⟨ver, t, 1, zs.map .bool⟩) (hm : m = zs.length) :
    RetB ⟨env, rows, ctr, 0⟩ [] (fun r ic news => ic = [] ∧ r = .ref 0 0 0 zs'.length ∧ news = [⟨0, t, 1, zs'.map .bool⟩]) (.ref τ ver 0 m) := by
  subst hz; subst hm
  exact retR hr (protL_bools _) rfl rfl
theorem set_repb {n : Nat} {cs : List AV} {i : Int} {b : Bool} {K : List AV → Prop} (hc : cs = [AV.bool false]) (h : 0 ≤ i ∧ i < n) (hK : K (((List.replicate n false).set i.toNat b).map .bool)) : aSet (rep n cs) (0 + i.toNat * 1) [.bool b] K := by
  subst hc; rw [rep_bools]; exact set_bool hK (by simp; omega)
theorem repb_fit {n : Nat} {cs : List AV} {i : Int} (hc : cs = [AV.bool false]) (h : 0 ≤ i ∧ i < n) : 0 + i.toNat * 1 + 1 ≤ (rep n cs).length := by
  subst hc; rw [rep_bools]; simp; omega
theorem neI_0 {ns : List Nd} {w : Int} (h : 1 ≤ ns.length) (hw : w = ns.length - 1) : (((List.replicate ((ns.length : Int).toNat) false).set w.toNat true).map AV.bool) = (neI ns ((ns.length : Int) - 1)).map .bool := by
  subst hw
  have e : ((ns.length : Int) - 1 - ((ns.length : Int) - 1)).toNat = 0 := by omega
  have e' : ((ns.length : Int) - 1).toNat = ns.length - 1 := by omega
  unfold neI
  rw [e, neAt, e', Int.toNat_natCast]
def sNeeded : CSpec := fnR (ι := Nat × List (List Int) × List Nd) 4 1 (fun | (c, xss, ns) => [.agg [.sl c xss.length (xss.map (slI c)), .sl c ns.length (ns.flatMap (ndC c))]]) (fun | (_, _, ns) => eP ns) (fun | (_, xss, ns) => (neL xss ns).length) (fun | (_, xss, ns) => (neL xss ns).map .bool)
set_option maxHeartbeats 4000000 in
theorem iNeededOf_sound : Sound Try.prog 38 sNeeded := by
  refine sound_of Try.func38 rfl (enters_of Try.func38 (by kernel_rfl) (by kernel_rfl)) ?_
  rintro ⟨c, xss, ns⟩ hpre
  have hE : eP ns := hpre
  have hmax : maxLen = 9223372036854775807 := rfl
  cases hM : (shM xss ns).2 with
  | false =>
    conv => whnf
    repeat' (first
      | (refine load_same ?_; conv => whnf)
      | (refine And.intro rfl (And.intro (List.cons_ne_nil _ _) ?_); conv => whnf)
      | (refine And.intro (Nat.le_of_ble_eq_true rfl) ?_; conv => whnf)
      | (refine callG_t ?_; conv => whnf)
      | (refine And.intro (pureL_ii _ _) ?_; conv => whnf)
      | (refine And.intro (pureL_nd _ _) ?_; conv => whnf)
      | (refine iExprOk_call (by first | omega | assumption | (refine ⟨?_, ?_⟩ <;> first | assumption | omega) | (refine ⟨?_, ?_, ?_⟩ <;> first | assumption | omega)) ?_; conv => whnf)
      | (refine takeN_in ?_; conv => whnf)
      | (refine And.intro (by kernel_rfl) ?_; conv => whnf)
      | (refine aIf_ff (by assumption) ?_; conv => whnf)
      | refine aIf_not ?_)
    exact retBM (if_neg (by rw [hM]; decide)) rfl rfl
  | true =>
    obtain ⟨⟨h1, h12⟩, hform⟩ := shM_form hM
    have hw : IntKind.i64.wrap ((ns.length : Int) - 1) = ns.length - 1 := IntWalk.i64_in _ (by omega)
    have hw2 : IntKind.i64.wrap ((((ns.length : Int).toNat : Nat) : Int) - 1) = ns.length - 1 := by rw [IntWalk.i64_in _ (by omega)]; omega
    have hi0 := neI_0 (w := IntKind.i64.wrap ((((ns.length : Int).toNat : Nat) : Int) - 1)) h1 hw2
    conv => whnf
    repeat' (first
      | (refine fun (_ : _ ≤ maxLen) => ?_; conv => whnf)
      | (refine aGet_in rfl ?_; conv => whnf)
      | (refine And.intro (by omega) ?_; conv => whnf)
      | (refine load_same ?_; conv => whnf)
      | (refine And.intro rfl (And.intro (List.cons_ne_nil _ _) ?_); conv => whnf)
      | (refine And.intro (Nat.le_of_ble_eq_true rfl) ?_; conv => whnf)
      | (refine callG_t ?_; conv => whnf)
      | (refine And.intro (pureL_ii _ _) ?_; conv => whnf)
      | (refine And.intro (pureL_nd _ _) ?_; conv => whnf)
      | (refine And.intro (repb_fit rfl (by omega)) ?_; conv => whnf)
      | (refine set_repb rfl (by omega) ?_; conv => whnf)
      | (refine iExprOk_call (by first | omega | assumption | (refine ⟨?_, ?_⟩ <;> first | assumption | omega) | (refine ⟨?_, ?_, ?_⟩ <;> first | assumption | omega)) ?_; conv => whnf)
      | (refine takeN_in ?_; conv => whnf)
      | (refine And.intro (And.intro (Int.le_refl _) (And.intro (by kernel_rfl) (And.intro rfl (by kernel_rfl)))) (And.intro (And.intro (by omega) (And.intro (bytes_le (b := 1) rfl (by omega)) (by omega))) ?_); conv => whnf)
      | (refine And.intro (by kernel_rfl) ?_; conv => whnf)
      | (refine aIf_tt (by assumption) ?_; conv => whnf)
      | refine aIf_not ?_)
    refine loop_u (ι := Int) [false, true, false, true, true, false, false, false, false, false, false, false, false, false, false, false, false, false, false, false, false, false, false, false, false, false, false, false, false, false, false, false, false, false, false, false, false, false, false, false, false, false, false, false, false, false, false] (fun i => [(4, .int .i64 i)]) (fun i => [(2, (neI ns i).map .bool)]) (fun i => -1 ≤ i ∧ i < ns.length) (fun i => (i + 1).toNat) (((ns.length : Int) - 1)) ⟨by omega, by omega⟩ ?_ ?_
    · conv => whnf
      repeat' (first | exact le_bools hi0 | exact int_eq hw | exact int_eq (hw2 : _ = _) | refine And.intro ?_ ?_)
      repeat' (first
        | exact trivial
        | exact rfl
        | exact Or.inl (And.intro rfl rfl)
        | exact pureL_ii _ _
        | exact pureL_nd _ _
        | refine Or.inr ?_
        | refine And.intro ?_ ?_
        | exact Nat.le_of_ble_eq_true rfl)
    · rintro i ⟨hi1, hi2⟩
      have hi1 : -1 ≤ i := hi1
      have hi2 : i < ns.length := hi2
      have hl := neI_length ns i
      by_cases hge : 0 ≤ i
      · cases hb : (neI ns i).getD i.toNat false with
        | false =>
          have hn := neI_f hge hi2 hb
          have hb1 : (neI ns i).getD (i.toNat * 1) false = false := by rw [Nat.mul_one]; exact hb
          conv => whnf
          repeat' (first
            | (refine And.intro (by omega) ?_; conv => whnf)
            | (refine getb_n (by omega) ?_; conv => whnf)
            | (refine aIf_ff (by assumption) ?_; conv => whnf)
            | refine aIf_not ?_
            | (refine aIf_dec (fun _ => ?_) (fun _ => ?_) <;> conv => whnf))
          all_goals (first | (exfalso; omega) | contradiction | skip)
          refine next_u (i - 1) (show (i - 1 + 1).toNat < (i + 1).toNat by omega) ⟨(by omega : -1 ≤ i - 1), (by omega : i - 1 < ns.length)⟩ ?_
          conv => whnf
          repeat' (first
            | exact trivial
            | exact rfl
            | exact Or.inl (And.intro rfl rfl)
            | exact pureL_ii _ _
            | exact pureL_nd _ _
            | refine le_bools ?_
            | refine Or.inr ?_
            | refine And.intro ?_ ?_
            | exact Nat.le_of_ble_eq_true rfl
            | exact int_eq (by rw [IntWalk.i64_in _ (by omega)] <;> omega))
          all_goals (first | (rw [hn]; done) | (rw [hn]; rfl) | skip)
        | true =>
          have hb1 : (neI ns i).getD (i.toNat * 1) false = true := by rw [Nat.mul_one]; exact hb
          have hp := parts_in (hform i.toNat (by omega)) (show i.toNat < ns.length by omega)
          have hpc := pcN_le2 (ns.getD i.toNat default).op
          have hlen : ([(ns.getD i.toNat default).a, (ns.getD i.toNat default).b] : List Int).length = 2 := rfl
          conv => whnf
          repeat' (first
            | (refine fun (_ : _ ≤ maxLen) => ?_; conv => whnf)
            | (refine aGet_in rfl ?_; conv => whnf)
            | (refine And.intro (by omega) ?_; conv => whnf)
            | (refine callG_t ?_; conv => whnf)
            | (refine part_nd (by omega) ?_; conv => whnf)
            | (refine getb_n (by omega) ?_; conv => whnf)
            | (refine partsOf_call ?_; conv => whnf)
            | (refine And.intro (pureL_ints _ _) ?_; conv => whnf)
            | (refine aIf_tt (by assumption) ?_; conv => whnf)
            | refine aIf_not ?_
            | (refine aIf_dec (fun _ => ?_) (fun _ => ?_) <;> conv => whnf))
          all_goals (first | (exfalso; omega) | contradiction | skip)
          refine loop_u (ι := Nat) [false, true, false, true, true, false, false, false, false, false, false, false, false, false, false, false, false, false, false, false, false, false, false, false, false, false, false, false, false, false, false, false, false, false, false, false, true, true, true, false, false, false, false, false, false, false, false] (fun j => [(38, .int .i64 j)]) (fun j => [(2, (neStep (neI ns i) (ns.getD i.toNat default) j).map .bool)]) (fun j => (j : Int) ≤ pcN (ns.getD i.toNat default).op) (fun j => 2 - j) (0) (by omega) ?_ ?_
          · conv => whnf
            repeat' (first
              | exact trivial
              | exact rfl
              | exact Or.inl (And.intro rfl rfl)
              | exact le_bools rfl
              | exact pureL_ii _ _
              | exact pureL_nd _ _
              | refine Or.inr ?_
              | refine And.intro ?_ ?_
              | exact Nat.le_of_ble_eq_true rfl)
          · rintro j hj
            have hj : (j : Int) ≤ pcN (ns.getD i.toNat default).op := hj
            have hul := neStep_length (neI ns i) (ns.getD i.toNat default) j
            by_cases hjl : (j : Int) < pcN (ns.getD i.toNat default).op
            · have hpj := hp j hjl
              conv => whnf
              repeat' (first
                | (refine get_nat0 (by omega) ?_; conv => whnf)
                | (refine And.intro (by omega) ?_; conv => whnf)
                | (refine And.intro rfl (And.intro rfl (And.intro (by first | omega | (rw [List.length_map]; omega)) ?_)); conv => whnf)
                | (refine set_bool ?_ (by omega); conv => whnf)
                | (refine aIf_dec (fun _ => ?_) (fun _ => ?_) <;> conv => whnf))
              all_goals (first | (exfalso; omega) | skip)
              refine next_u (j + 1) (show 2 - (j + 1) < 2 - j by omega) (by show ((j + 1 : Nat) : Int) ≤ _; omega) ?_
              conv => whnf
              repeat' (first
                | exact trivial
                | exact rfl
                | exact Or.inl (And.intro rfl rfl)
                | exact le_bools rfl
                | exact pureL_ii _ _
                | exact pureL_nd _ _
                | refine Or.inr ?_
                | refine And.intro ?_ ?_
                | exact Nat.le_of_ble_eq_true rfl
                | exact int_eq (by rw [IntWalk.i64_in _ (by omega)] <;> omega))
            · have hn : neI ns (i - 1) = neStep (neI ns i) (ns.getD i.toNat default) j := by rw [neI_t hge hi2 hb]; congr 1; omega
              conv => whnf
              repeat' (first
                | (refine get_nat0 (by omega) ?_; conv => whnf)
                | (refine And.intro (by omega) ?_; conv => whnf)
                | (refine setb_n ?_ (by omega); conv => whnf)
                | (refine aIf_dec (fun _ => ?_) (fun _ => ?_) <;> conv => whnf))
              all_goals (first | (exfalso; omega) | skip)
              refine next_u (i - 1) (show (i - 1 + 1).toNat < (i + 1).toNat by omega) ⟨(by omega : -1 ≤ i - 1), (by omega : i - 1 < ns.length)⟩ ?_
              conv => whnf
              repeat' (first
                | exact trivial
                | exact rfl
                | exact Or.inl (And.intro rfl rfl)
                | exact pureL_ii _ _
                | exact pureL_nd _ _
                | refine le_bools ?_
                | refine Or.inr ?_
                | refine And.intro ?_ ?_
                | exact Nat.le_of_ble_eq_true rfl
                | exact int_eq (by rw [IntWalk.i64_in _ (by omega)] <;> omega))
              all_goals (first | (rw [hn]; done) | (rw [hn]; rfl) | skip)
      · have he : i = -1 := by omega
        subst he
        conv => whnf
        repeat' (first
          | (refine aIf_f ?_; conv => whnf))
        all_goals (first | (exfalso; omega) | contradiction | skip)
        exact retBM (if_pos hM) rfl (by rw [hl]; rfl)
end Go.Proofs.Ytilimbdpdpfalaa
