import Derived.Test.YtpbenelmklggcaaM012x24
import Derived.Test.YtpbenelmklggcaaM012x22
/- Chapter 3: UsesOf of both sides. -/
namespace Go.Proofs.Ytpbenelmklggcaa
set_option maxRecDepth 20000
open Go.RowKit Go.Am
set_option linter.unusedSimpArgs false
theorem shTo_form {ins : List (List Int)} {ns : List Nd} {j : Nat} (hf : ¬ formP (ns.getD j default) j ins.length) : shTo ins ns (j + 1) = none := by
  rw [shTo]
  cases shTo ins ns j with
  | none => rfl
  | some s => exact if_neg fun h => hf h.1
theorem shM_form {ins : List (List Int)} {ns : List Nd} (h : (shM ins ns).2 = true) : (1 ≤ ns.length ∧ ns.length ≤ 12) ∧ ∀ j, j < ns.length → formP (ns.getD j default) j ins.length := by
  by_cases hI : insOk ins ∧ 1 ≤ ns.length ∧ ns.length ≤ 12
  · refine ⟨hI.2, fun j hj => ?_⟩
    by_cases hf : formP (ns.getD j default) j ins.length
    · exact hf
    · rw [shM_n (shTo_none (shTo_form hf) _ (by omega))] at h; cases h
  · rw [shM_f hI] at h; cases h
def incAt (us : List Int) (i : Int) : List Int := us.set i.toNat (IntKind.i64.wrap (us.getD i.toNat 0 + 1))
def usN (us : List Int) (x : Nd) : List Int := if pcN x.op = 0 then us else if pcN x.op = 1 then incAt us x.a else incAt (incAt us x.a) x.b
theorem incAt_length (us : List Int) (i : Int) : (incAt us i).length = us.length := by simp [incAt]
theorem usN_length (us : List Int) (x : Nd) : (usN us x).length = us.length := by
  unfold usN; split
  · rfl
  · split <;> simp [incAt_length]
def usTo (ns : List Nd) : Nat → List Int
  | 0 => List.replicate ns.length 0
  | k + 1 => usN (usTo ns k) (ns.getD k default)
theorem usTo_length (ns : List Nd) : ∀ k, (usTo ns k).length = ns.length
  | 0 => by simp [usTo]
  | k + 1 => by rw [usTo, usN_length, usTo_length ns k]
def usL (xss : List (List Int)) (ns : List Nd) : List Int := if (shM xss ns).2 = true then usTo ns ns.length else []
theorem retLM {env : List AV} {rows : List Row} {ctr τ ver : Nat} {t : TypeId} {zs zs' : List Int} {r : Row} {n : Nat} (hz : zs' = zs) (hr : rows[τ]? = some r) (hv : r.ver = ver) (e : r = ⟨ver, t, 1, zs.map (.int .i64)⟩) (hn : n = zs.length) :
    RetB ⟨env, rows, ctr, 0⟩ [] (fun r ic news => r = .ref 0 0 0 zs'.length ∧ ic = [] ∧ news = [⟨0, t, 1, zs'.map (.int .i64)⟩]) (.ref τ ver 0 n) := by
  subst hz; exact retL hr hv e hn
attribute [local irreducible] aPlan aGet aIf aLoop aCall RetB NextB CallB CallG aCut aSet aAppend
def sUses : CSpec := fnL (ι := Nat × List (List Int) × List Nd) 3 (fun | (c, xss, ns) => [.agg [.sl c xss.length (xss.map (slI c)), .sl c ns.length (ns.flatMap (ndC c))]]) (fun | (_, _, ns) => eP ns) (fun | (_, xss, ns) => usL xss ns)
end Go.Proofs.Ytpbenelmklggcaa

/- Chapter 3: UsesOf of the program. -/
namespace Go.Proofs.Ytpbenelmklggcaa
set_option maxRecDepth 20000
open Go.RowKit Go.Am
set_option linter.unusedSimpArgs false
attribute [local irreducible] aPlan aGet aIf aLoop aCall RetB NextB CallB CallG aCut aSet aAppend

def usP (us : List Int) (x : Nd) : Nat → List Int
  | 0 => us
  | j + 1 => incAt (usP us x j) (([x.a, x.b] : List Int).getD j 0)
theorem usP_length (us : List Int) (x : Nd) : ∀ j, (usP us x j).length = us.length
  | 0 => rfl
  | j + 1 => by rw [usP, incAt_length, usP_length us x j]
theorem usP_all {us : List Int} {x : Nd} {j : Nat} (h : (j : Int) = pcN x.op) : usN us x = usP us x j := by
  rcases pcN_cases x.op with ⟨h1, -⟩ | ⟨h1, -⟩ | ⟨h1, -⟩
  · have : j = 0 := by omega
    subst this; unfold usN; rw [if_pos h1]; rfl
  · have : j = 1 := by omega
    subst this; unfold usN; rw [if_neg (by omega), if_pos h1]; rfl
  · have : j = 2 := by omega
    subst this; unfold usN; rw [if_neg (by omega), if_neg (by omega)]; rfl
theorem parts_in {x : Nd} {k n : Nat} {m : Int} (hf : formP x k m) (hk : k < n) : ∀ j : Nat, (j : Int) < pcN x.op → 0 ≤ ([x.a, x.b] : List Int).getD j 0 ∧ ([x.a, x.b] : List Int).getD j 0 < n := by
  obtain ⟨f1, f2, f3, f4, f5, f6, f7⟩ := hf
  intro j hj
  rcases pcN_cases x.op with ⟨h1, h2⟩ | ⟨h1, h2⟩ | ⟨h1, h2, h3⟩
  · omega
  · have : j = 0 := by omega
    subst this
    show 0 ≤ x.a ∧ x.a < n
    omega
  · have : j = 0 ∨ j = 1 := by omega
    rcases this with rfl | rfl
    · show 0 ≤ x.a ∧ x.a < n
      omega
    · show 0 ≤ x.b ∧ x.b < n
      omega
theorem pcN_le2 (op : Int) : pcN op ≤ 2 ∧ 0 ≤ pcN op := by rcases pcN_cases op with h | h | h <;> omega
theorem usL_length (xss : List (List Int)) (ns : List Nd) : (usL xss ns).length ≤ 12 := by
  unfold usL; split
  · rename_i h
    have := (shM_form h).1
    rw [usTo_length]; exact this.2
  · exact Nat.zero_le _
end Go.Proofs.Ytpbenelmklggcaa

/- Chapter 3: rows of bools in the laws; NeededOf of both sides. -/
namespace Go.Proofs.Ytpbenelmklggcaa
set_option maxRecDepth 20000
open Go.RowKit Go.Am
set_option linter.unusedSimpArgs false
attribute [local irreducible] aPlan aGet aIf aLoop aCall RetB NextB CallB CallG aCut aSet aAppend

def marksB (m : Int) (n : Nat) : List Bool := (List.range n).map fun (j : Nat) => ((m + (j : Int)).tmod 3 == 0)
theorem marksB_length (m : Int) (n : Nat) : (marksB m n).length = n := by simp [marksB]
theorem marksB_getD {m : Int} {n j : Nat} (h : j < n) : (marksB m n).getD j false = ((m + (j : Int)).tmod 3 == 0) := by
  simp [marksB, List.getD, List.getElem?_map, List.getElem?_range h]
def sMarkB : CSpec := fnMR (ι := List Bool × Int) 4 1 (fun x => x.1.length) (fun x => x.1.map .bool) (fun x => x.2) (fun x => x.1.length ≤ 1048576 ∧ 0 ≤ x.2 ∧ x.2 ≤ 100000000000) (fun x => x.2 + x.1.length) (fun x => (marksB x.2 x.1.length).map .bool)
theorem cut_marksB {m : Int} {n : Nat} {k : List AV → Prop} {f : Nat} (hk : k ((marksB m n).map .bool)) : aCut (f + 1) ((marksB m n).map .bool) 0 (n * 1) k := cut_all (by simp [marksB_length]) (scalL_bools _) hk

/-! NeededOf. -/
def neStep (bs : List Bool) (x : Nd) : Nat → List Bool
  | 0 => bs
  | j + 1 => (neStep bs x j).set (([x.a, x.b] : List Int).getD j 0).toNat true
theorem neStep_length (bs : List Bool) (x : Nd) : ∀ j, (neStep bs x j).length = bs.length
  | 0 => rfl
  | j + 1 => by rw [neStep, List.length_set, neStep_length bs x j]
def neAt (ns : List Nd) : Nat → List Bool
  | 0 => (List.replicate ns.length false).set (ns.length - 1) true
  | m + 1 => if (neAt ns m).getD (ns.length - 1 - m) false = true then neStep (neAt ns m) (ns.getD (ns.length - 1 - m) default) (pcN (ns.getD (ns.length - 1 - m) default).op).toNat else neAt ns m
theorem neAt_length (ns : List Nd) : ∀ m, (neAt ns m).length = ns.length
  | 0 => by simp [neAt]
  | m + 1 => by
    unfold neAt; split
    · rw [neStep_length, neAt_length ns m]
    · exact neAt_length ns m
def neI (ns : List Nd) (i : Int) : List Bool := neAt ns ((ns.length : Int) - 1 - i).toNat
theorem neI_length (ns : List Nd) (i : Int) : (neI ns i).length = ns.length := neAt_length _ _
theorem neI_next {ns : List Nd} {i : Int} (h0 : 0 ≤ i) (h1 : i < ns.length) : neI ns (i - 1) = if (neI ns i).getD i.toNat false = true then neStep (neI ns i) (ns.getD i.toNat default) (pcN (ns.getD i.toNat default).op).toNat else neI ns i := by
  unfold neI
  have e : ((ns.length : Int) - 1 - (i - 1)).toNat = ((ns.length : Int) - 1 - i).toNat + 1 := by omega
  have e' : ns.length - 1 - ((ns.length : Int) - 1 - i).toNat = i.toNat := by omega
  rw [e, neAt, e']
theorem neI_t {ns : List Nd} {i : Int} (h0 : 0 ≤ i) (h1 : i < ns.length) (hb : (neI ns i).getD i.toNat false = true) : neI ns (i - 1) = neStep (neI ns i) (ns.getD i.toNat default) (pcN (ns.getD i.toNat default).op).toNat := by
  rw [neI_next h0 h1, if_pos hb]
theorem neI_f {ns : List Nd} {i : Int} (h0 : 0 ≤ i) (h1 : i < ns.length) (hb : (neI ns i).getD i.toNat false = false) : neI ns (i - 1) = neI ns i := by
  rw [neI_next h0 h1, if_neg (by rw [hb]; decide)]
def neL (xss : List (List Int)) (ns : List Nd) : List Bool := if (shM xss ns).2 = true then neI ns (-1) else []
theorem neL_length (xss : List (List Int)) (ns : List Nd) : (neL xss ns).length ≤ 12 := by
  unfold neL; split
  · rename_i h
    have := (shM_form h).1
    rw [neI_length]; exact this.2
  · exact Nat.zero_le _
theorem retBM {env : List AV} {rows : List Row} {ctr τ ver m : Nat} {t : TypeId} {zs zs' : List Bool} (hz : zs' = zs) (hr : rows[τ]? = some ⟨ver, t, 1, zs.map .bool⟩) (hm : m = zs.length) :
    RetB ⟨env, rows, ctr, 0⟩ [] (fun r ic news => ic = [] ∧ r = .ref 0 0 0 zs'.length ∧ news = [⟨0, t, 1, zs'.map .bool⟩]) (.ref τ ver 0 m) := by
  subst hz; subst hm
  exact retR hr (protL_bools _) rfl rfl
theorem set_repb {n : Nat} {cs : List AV} {i : Int} {b : Bool} {K : List AV → Prop} (hc : cs = [AV.bool false]) (h : 0 ≤ i ∧ i < n) (hK : K (((List.replicate n false).set i.toNat b).map .bool)) : aSet (rep n cs) (0 + i.toNat * 1) [.bool b] K := by
  subst hc; rw [rep_bools]; exact set_bool hK (by simp; omega)
theorem repb_fit {n : Nat} {cs : List AV} {i : Int} (hc : cs = [AV.bool false]) (h : 0 ≤ i ∧ i < n) : 0 + i.toNat * 1 + 1 ≤ (rep n cs).length := by
  subst hc; rw [rep_bools]; simp; omega
theorem neI_0 {ns : List Nd} {w : Int} (h : 1 ≤ ns.length) (hw : w = ns.length - 1) : (((List.replicate ((ns.length : Int).toNat) false).set w.toNat true).map AV.bool) = (neI ns ((ns.length : Int) - 1)).map .bool := by
  subst hw
  have e : ((ns.length : Int) - 1 - ((ns.length : Int) - 1)).toNat = 0 := by omega
  have e' : ((ns.length : Int) - 1).toNat = ns.length - 1 := by omega
  unfold neI
  rw [e, neAt, e', Int.toNat_natCast]
def sNeeded : CSpec := fnR (ι := Nat × List (List Int) × List Nd) 4 1 (fun | (c, xss, ns) => [.agg [.sl c xss.length (xss.map (slI c)), .sl c ns.length (ns.flatMap (ndC c))]]) (fun | (_, _, ns) => eP ns) (fun | (_, xss, ns) => (neL xss ns).length) (fun | (_, xss, ns) => (neL xss ns).map .bool)
set_option maxHeartbeats 4000000 in
theorem iNeededOf_sound : Sound Try.prog 24 sNeeded := by
  refine sound_of Try.func24 rfl (enters_of Try.func24 (by kernel_rfl) (by kernel_rfl)) ?_
  rintro ⟨c, xss, ns⟩ hpre
  have hE : eP ns := hpre
  have hmax : maxLen = 9223372036854775807 := rfl
  cases hM : (shM xss ns).2 with
  | false =>
    conv => whnf
    repeat' (first
      | (refine load_same ?_; conv => whnf)
      | (refine And.intro rfl (And.intro (List.cons_ne_nil _ _) ?_); conv => whnf)
      | (refine And.intro (Nat.le_of_ble_eq_true rfl) ?_; conv => whnf)
      | (refine callG_t ?_; conv => whnf)
      | (refine append_same ?_; conv => whnf)
      | (refine And.intro (pureL_ii _ _) ?_; conv => whnf)
      | (refine And.intro (pureL_nd _ _) ?_; conv => whnf)
      | (refine iExprOk_call (by first | omega | assumption | (refine ⟨?_, ?_⟩ <;> first | assumption | omega) | (refine ⟨?_, ?_, ?_⟩ <;> first | assumption | omega)) ?_; conv => whnf)
      | (refine takeN_in ?_; conv => whnf)
      | (refine And.intro (by kernel_rfl) ?_; conv => whnf)
      | (refine aIf_ff (by assumption) ?_; conv => whnf)
      | refine aIf_not ?_)
    exact retBM (if_neg (by rw [hM]; decide)) rfl rfl
  | true =>
    obtain ⟨⟨h1, h12⟩, hform⟩ := shM_form hM
    have hw : IntKind.i64.wrap ((ns.length : Int) - 1) = ns.length - 1 := IntWalk.i64_in _ (by omega)
    have hw2 : IntKind.i64.wrap ((((ns.length : Int).toNat : Nat) : Int) - 1) = ns.length - 1 := by rw [IntWalk.i64_in _ (by omega)]; omega
    have hi0 := neI_0 (w := IntKind.i64.wrap ((((ns.length : Int).toNat : Nat) : Int) - 1)) h1 hw2
    conv => whnf
    repeat' (first
      | (refine fun (_ : _ ≤ maxLen) => ?_; conv => whnf)
      | (refine aGet_in rfl ?_; conv => whnf)
      | (refine And.intro (by omega) ?_; conv => whnf)
      | (refine load_same ?_; conv => whnf)
      | (refine And.intro rfl (And.intro (List.cons_ne_nil _ _) ?_); conv => whnf)
      | (refine And.intro (Nat.le_of_ble_eq_true rfl) ?_; conv => whnf)
      | (refine callG_t ?_; conv => whnf)
      | (refine append_same ?_; conv => whnf)
      | (refine And.intro (pureL_ii _ _) ?_; conv => whnf)
      | (refine And.intro (pureL_nd _ _) ?_; conv => whnf)
      | (refine And.intro (repb_fit rfl (by omega)) ?_; conv => whnf)
      | (refine set_repb rfl (by omega) ?_; conv => whnf)
      | (refine iExprOk_call (by first | omega | assumption | (refine ⟨?_, ?_⟩ <;> first | assumption | omega) | (refine ⟨?_, ?_, ?_⟩ <;> first | assumption | omega)) ?_; conv => whnf)
      | (refine takeN_in ?_; conv => whnf)
      | (refine And.intro (And.intro (Int.le_refl _) (And.intro (by kernel_rfl) (And.intro rfl (by kernel_rfl)))) (And.intro (And.intro (by omega) (And.intro (bytes_le (b := 1) rfl (by omega)) (by omega))) ?_); conv => whnf)
      | (refine And.intro (by kernel_rfl) ?_; conv => whnf)
      | (refine aIf_tt (by assumption) ?_; conv => whnf)
      | refine aIf_not ?_)
    refine loop_u (ι := Int) [false, true, false, true, true, false, false, false, false, false, false, false, false, false, false, false, false, false, false, false, false, false, false, false, false, false, false, false, false, false, false, false, false, false, false, false, false, false, false, false, false, false, false, false, false, false, false] (fun i => [(4, .int .i64 i)]) (fun i => [(2, (neI ns i).map .bool)]) (fun i => -1 ≤ i ∧ i < ns.length) (fun i => (i + 1).toNat) (((ns.length : Int) - 1)) ⟨by omega, by omega⟩ ?_ ?_
    · conv => whnf
      repeat' (first | exact le_bools hi0 | exact int_eq hw | exact int_eq (hw2 : _ = _) | refine And.intro ?_ ?_)
      repeat' (first
        | exact trivial
        | exact rfl
        | exact Or.inl (And.intro rfl rfl)
        | exact pureL_ii _ _
        | exact pureL_nd _ _
        | refine Or.inr ?_
        | refine And.intro ?_ ?_
        | exact Nat.le_of_ble_eq_true rfl)
    · rintro i ⟨hi1, hi2⟩
      have hi1 : -1 ≤ i := hi1
      have hi2 : i < ns.length := hi2
      have hl := neI_length ns i
      by_cases hge : 0 ≤ i
      · cases hb : (neI ns i).getD i.toNat false with
        | false =>
          have hn := neI_f hge hi2 hb
          have hb1 : (neI ns i).getD (i.toNat * 1) false = false := by rw [Nat.mul_one]; exact hb
          conv => whnf
          repeat' (first
            | (refine And.intro (by omega) ?_; conv => whnf)
            | (refine append_same ?_; conv => whnf)
            | (refine getb_n (by omega) ?_; conv => whnf)
            | (refine aIf_ff (by assumption) ?_; conv => whnf)
            | refine aIf_not ?_
            | (refine aIf_dec (fun _ => ?_) (fun _ => ?_) <;> conv => whnf))
          all_goals (first | (exfalso; omega) | contradiction | skip)
          refine next_u (i - 1) (show (i - 1 + 1).toNat < (i + 1).toNat by omega) ⟨(by omega : -1 ≤ i - 1), (by omega : i - 1 < ns.length)⟩ ?_
          conv => whnf
          repeat' (first
            | exact trivial
            | exact rfl
            | exact Or.inl (And.intro rfl rfl)
            | exact pureL_ii _ _
            | exact pureL_nd _ _
            | refine le_bools ?_
            | refine Or.inr ?_
            | refine And.intro ?_ ?_
            | exact Nat.le_of_ble_eq_true rfl
            | exact int_eq (by rw [IntWalk.i64_in _ (by omega)] <;> omega))
          all_goals (first | (rw [hn]; done) | (rw [hn]; rfl) | skip)
        | true =>
          have hb1 : (neI ns i).getD (i.toNat * 1) false = true := by rw [Nat.mul_one]; exact hb
          have hp := parts_in (hform i.toNat (by omega)) (show i.toNat < ns.length by omega)
          have hpc := pcN_le2 (ns.getD i.toNat default).op
          have hlen : ([(ns.getD i.toNat default).a, (ns.getD i.toNat default).b] : List Int).length = 2 := rfl
          conv => whnf
          repeat' (first
            | (refine fun (_ : _ ≤ maxLen) => ?_; conv => whnf)
            | (refine aGet_in rfl ?_; conv => whnf)
            | (refine And.intro (by omega) ?_; conv => whnf)
            | (refine callG_t ?_; conv => whnf)
            | (refine append_same ?_; conv => whnf)
            | (refine part_nd (by omega) ?_; conv => whnf)
            | (refine getb_n (by omega) ?_; conv => whnf)
            | (refine partsOf_call ?_; conv => whnf)
            | (refine And.intro (pureL_ints _ _) ?_; conv => whnf)
            | (refine aIf_tt (by assumption) ?_; conv => whnf)
            | refine aIf_not ?_
            | (refine aIf_dec (fun _ => ?_) (fun _ => ?_) <;> conv => whnf))
          all_goals (first | (exfalso; omega) | contradiction | skip)
          refine loop_u (ι := Nat) [false, true, false, true, true, false, false, false, false, false, false, false, false, false, false, false, false, false, false, false, false, false, false, false, false, false, false, false, false, false, false, false, false, false, false, false, true, true, true, false, false, false, false, false, false, false, false] (fun j => [(38, .int .i64 j)]) (fun j => [(2, (neStep (neI ns i) (ns.getD i.toNat default) j).map .bool)]) (fun j => (j : Int) ≤ pcN (ns.getD i.toNat default).op) (fun j => 2 - j) (0) (by omega) ?_ ?_
          · conv => whnf
            repeat' (first
              | exact trivial
              | exact rfl
              | exact Or.inl (And.intro rfl rfl)
              | exact le_bools rfl
              | exact pureL_ii _ _
              | exact pureL_nd _ _
              | refine Or.inr ?_
              | refine And.intro ?_ ?_
              | exact Nat.le_of_ble_eq_true rfl)
          · rintro j hj
            have hj : (j : Int) ≤ pcN (ns.getD i.toNat default).op := hj
            have hul := neStep_length (neI ns i) (ns.getD i.toNat default) j
            by_cases hjl : (j : Int) < pcN (ns.getD i.toNat default).op
            · have hpj := hp j hjl
              conv => whnf
              repeat' (first
                | (refine get_nat0 (by omega) ?_; conv => whnf)
                | (refine And.intro (by omega) ?_; conv => whnf)
                | (refine append_same ?_; conv => whnf)
                | (refine And.intro rfl (And.intro rfl (And.intro (by first | omega | (rw [List.length_map]; omega)) ?_)); conv => whnf)
                | (refine set_bool ?_ (by omega); conv => whnf)
                | (refine aIf_dec (fun _ => ?_) (fun _ => ?_) <;> conv => whnf))
              all_goals (first | (exfalso; omega) | skip)
              refine next_u (j + 1) (show 2 - (j + 1) < 2 - j by omega) (by show ((j + 1 : Nat) : Int) ≤ _; omega) ?_
              conv => whnf
              repeat' (first
                | exact trivial
                | exact rfl
                | exact Or.inl (And.intro rfl rfl)
                | exact le_bools rfl
                | exact pureL_ii _ _
                | exact pureL_nd _ _
                | refine Or.inr ?_
                | refine And.intro ?_ ?_
                | exact Nat.le_of_ble_eq_true rfl
                | exact int_eq (by rw [IntWalk.i64_in _ (by omega)] <;> omega))
            · have hn : neI ns (i - 1) = neStep (neI ns i) (ns.getD i.toNat default) j := by rw [neI_t hge hi2 hb]; congr 1; omega
              conv => whnf
              repeat' (first
                | (refine get_nat0 (by omega) ?_; conv => whnf)
                | (refine And.intro (by omega) ?_; conv => whnf)
                | (refine append_same ?_; conv => whnf)
                | (refine setb_n ?_ (by omega); conv => whnf)
                | (refine aIf_dec (fun _ => ?_) (fun _ => ?_) <;> conv => whnf))
              all_goals (first | (exfalso; omega) | skip)
              refine next_u (i - 1) (show (i - 1 + 1).toNat < (i + 1).toNat by omega) ⟨(by omega : -1 ≤ i - 1), (by omega : i - 1 < ns.length)⟩ ?_
              conv => whnf
              repeat' (first
                | exact trivial
                | exact rfl
                | exact Or.inl (And.intro rfl rfl)
                | exact pureL_ii _ _
                | exact pureL_nd _ _
                | refine le_bools ?_
                | refine Or.inr ?_
                | refine And.intro ?_ ?_
                | exact Nat.le_of_ble_eq_true rfl
                | exact int_eq (by rw [IntWalk.i64_in _ (by omega)] <;> omega))
              all_goals (first | (rw [hn]; done) | (rw [hn]; rfl) | skip)
      · have he : i = -1 := by omega
        subst he
        conv => whnf
        repeat' (first
          | (refine aIf_f ?_; conv => whnf)
          | (refine append_same ?_; conv => whnf))
        all_goals (first | (exfalso; omega) | contradiction | skip)
        exact retBM (if_pos hM) rfl (by rw [hl]; rfl)
end Go.Proofs.Ytpbenelmklggcaa

/- Chapter 3: NeededOf of the model. -/
namespace Go.Proofs.Ytpbenelmklggcaa
set_option maxRecDepth 20000
open Go.RowKit Go.Am
set_option linter.unusedSimpArgs false
attribute [local irreducible] aPlan aGet aIf aLoop aCall RetB NextB CallB CallG aCut aSet aAppend
set_option maxHeartbeats 4000000 in
theorem sNeededOf_sound : Sound Try.prog 29 sNeeded := by
  refine sound_of Try.func29 rfl (enters_of Try.func29 (by kernel_rfl) (by kernel_rfl)) ?_
  rintro ⟨c, xss, ns⟩ hpre
  have hE : eP ns := hpre
  have hmax : maxLen = 9223372036854775807 := rfl
  cases hM : (shM xss ns).2 with
  | false =>
    conv => whnf
    repeat' (first
      | (refine load_same ?_; conv => whnf)
      | (refine And.intro rfl (And.intro (List.cons_ne_nil _ _) ?_); conv => whnf)
      | (refine And.intro (Nat.le_of_ble_eq_true rfl) ?_; conv => whnf)
      | (refine callG_t ?_; conv => whnf)
      | (refine append_same ?_; conv => whnf)
      | (refine And.intro (pureL_ii _ _) ?_; conv => whnf)
      | (refine And.intro (pureL_nd _ _) ?_; conv => whnf)
      | (refine sExprOk_call (by first | omega | assumption | (refine ⟨?_, ?_⟩ <;> first | assumption | omega) | (refine ⟨?_, ?_, ?_⟩ <;> first | assumption | omega)) ?_; conv => whnf)
      | (refine takeN_in ?_; conv => whnf)
      | (refine And.intro (by kernel_rfl) ?_; conv => whnf)
      | (refine aIf_ff (by assumption) ?_; conv => whnf)
      | refine aIf_not ?_)
    exact retBM (if_neg (by rw [hM]; decide)) rfl rfl
  | true =>
    obtain ⟨⟨h1, h12⟩, hform⟩ := shM_form hM
    have hw : IntKind.i64.wrap ((ns.length : Int) - 1) = ns.length - 1 := IntWalk.i64_in _ (by omega)
    have hw2 : IntKind.i64.wrap ((((ns.length : Int).toNat : Nat) : Int) - 1) = ns.length - 1 := by rw [IntWalk.i64_in _ (by omega)]; omega
    have hi0 := neI_0 (w := IntKind.i64.wrap ((((ns.length : Int).toNat : Nat) : Int) - 1)) h1 hw2
    conv => whnf
    repeat' (first
      | (refine fun (_ : _ ≤ maxLen) => ?_; conv => whnf)
      | (refine aGet_in rfl ?_; conv => whnf)
      | (refine And.intro (by omega) ?_; conv => whnf)
      | (refine load_same ?_; conv => whnf)
      | (refine And.intro rfl (And.intro (List.cons_ne_nil _ _) ?_); conv => whnf)
      | (refine And.intro (Nat.le_of_ble_eq_true rfl) ?_; conv => whnf)
      | (refine callG_t ?_; conv => whnf)
      | (refine append_same ?_; conv => whnf)
      | (refine And.intro (pureL_ii _ _) ?_; conv => whnf)
      | (refine And.intro (pureL_nd _ _) ?_; conv => whnf)
      | (refine And.intro (repb_fit rfl (by omega)) ?_; conv => whnf)
      | (refine set_repb rfl (by omega) ?_; conv => whnf)
      | (refine sExprOk_call (by first | omega | assumption | (refine ⟨?_, ?_⟩ <;> first | assumption | omega) | (refine ⟨?_, ?_, ?_⟩ <;> first | assumption | omega)) ?_; conv => whnf)
      | (refine takeN_in ?_; conv => whnf)
      | (refine And.intro (And.intro (Int.le_refl _) (And.intro (by kernel_rfl) (And.intro rfl (by kernel_rfl)))) (And.intro (And.intro (by omega) (And.intro (bytes_le (b := 1) rfl (by omega)) (by omega))) ?_); conv => whnf)
      | (refine And.intro (by kernel_rfl) ?_; conv => whnf)
      | (refine aIf_tt (by assumption) ?_; conv => whnf)
      | refine aIf_not ?_)
    refine loop_u (ι := Int) [false, true, false, true, true, false, false, false, false, false, false, false, false, false, false, false, false, false, false, false, false, false, false, false, false, false, false, false, false, false, false, false, false, false, false, false, false, false, false, false, false, false, false, false, false, false, false, false, false, false, false, false, false, false, false, false, false, false, false, false, false, false, false] (fun i => [(4, .int .i64 i)]) (fun i => [(2, (neI ns i).map .bool)]) (fun i => -1 ≤ i ∧ i < ns.length) (fun i => (i + 1).toNat) (((ns.length : Int) - 1)) ⟨by omega, by omega⟩ ?_ ?_
    · conv => whnf
      repeat' (first | exact le_bools hi0 | exact int_eq hw | exact int_eq (hw2 : _ = _) | refine And.intro ?_ ?_)
      repeat' (first
        | exact trivial
        | exact rfl
        | exact Or.inl (And.intro rfl rfl)
        | exact pureL_ii _ _
        | exact pureL_nd _ _
        | refine Or.inr ?_
        | refine And.intro ?_ ?_
        | exact Nat.le_of_ble_eq_true rfl)
    · rintro i ⟨hi1, hi2⟩
      have hi1 : -1 ≤ i := hi1
      have hi2 : i < ns.length := hi2
      have hl := neI_length ns i
      by_cases hge : 0 ≤ i
      · obtain ⟨f1, f2, f3, f4, f5, f6, f7⟩ := hform i.toNat (by omega)
        cases hb : (neI ns i).getD i.toNat false with
        | false =>
          have hn := neI_f hge hi2 hb
          have hb1 : (neI ns i).getD (i.toNat * 1) false = false := by rw [Nat.mul_one]; exact hb
          conv => whnf
          repeat' (first
            | (refine aIf_f ?_; conv => whnf)
            | (refine aGet_in rfl ?_; conv => whnf)
            | (refine And.intro (by omega) ?_; conv => whnf)
            | (refine And.intro (Nat.le_of_ble_eq_true rfl) ?_; conv => whnf)
            | (refine append_same ?_; conv => whnf)
            | (refine part_nd (by omega) ?_; conv => whnf)
            | (refine getb_n (by omega) ?_; conv => whnf)
            | (refine set_force ?_; conv => whnf)
            | (refine And.intro (by kernel_rfl) ?_; conv => whnf)
            | (refine aIf_ff (by assumption) ?_; conv => whnf)
            | refine aIf_eqt ?_
            | (refine aIf_dec (fun _ => ?_) (fun _ => ?_) <;> conv => whnf))
          all_goals (first | (exfalso; omega) | contradiction | skip)
          refine next_u (i - 1) (show (i - 1 + 1).toNat < (i + 1).toNat by omega) ⟨(by omega : -1 ≤ i - 1), (by omega : i - 1 < ns.length)⟩ ?_
          conv => whnf
          repeat' (first
            | exact trivial
            | exact rfl
            | exact Or.inl (And.intro rfl rfl)
            | exact pureL_ii _ _
            | exact pureL_nd _ _
            | refine le_bools ?_
            | refine Or.inr ?_
            | refine And.intro ?_ ?_
            | exact Nat.le_of_ble_eq_true rfl
            | exact int_eq (by rw [IntWalk.i64_in _ (by omega)] <;> omega))
          all_goals (first | (rw [hn]; done) | (rw [hn]; rfl) | skip)
        | true =>
          have hn0 := neI_t hge hi2 hb
          have hb1 : (neI ns i).getD (i.toNat * 1) false = true := by rw [Nat.mul_one]; exact hb
          by_cases o1 : (ns.getD i.toNat default).op = 0 ∨ (ns.getD i.toNat default).op = 1
          · have t2 : ¬ twoP3 (ns.getD i.toNat default).op := by unfold twoP3; omega
            have t1 : ¬ (6 ≤ (ns.getD i.toNat default).op ∧ (ns.getD i.toNat default).op ≤ 10) := by omega
            have hn : neI ns (i - 1) = neI ns i := by rw [hn0, pcN_0 o1]; rfl
            conv => whnf
            repeat' (first
              | (refine aIf_t ?_; conv => whnf)
              | (refine aIf_f ?_; conv => whnf)
              | (refine aGet_in rfl ?_; conv => whnf)
              | (refine And.intro (by omega) ?_; conv => whnf)
              | (refine And.intro (Nat.le_of_ble_eq_true rfl) ?_; conv => whnf)
              | (refine callG_t ?_; conv => whnf)
              | (refine append_same ?_; conv => whnf)
              | (refine part_nd (by omega) ?_; conv => whnf)
              | (refine getb_n (by omega) ?_; conv => whnf)
              | (refine setb_n ?_ (by omega); conv => whnf)
              | (refine l3Two_call trivial ?_; conv => whnf)
              | (refine l3One_call trivial ?_; conv => whnf)
              | (refine And.intro rfl (And.intro rfl (And.intro (by first | omega | (rw [List.length_map]; omega)) ?_)); conv => whnf)
              | (refine set_bool ?_ (by omega); conv => whnf)
              | (refine set_force ?_; conv => whnf)
              | (refine And.intro (by kernel_rfl) ?_; conv => whnf)
              | (refine aIf_tt (by assumption) ?_; conv => whnf)
              | refine aIf_eqt ?_
              | refine aIf_eqf ?_
              | (refine aIf_dec (fun _ => ?_) (fun _ => ?_) <;> conv => whnf)
              | (refine aIf_in (fun _ => ?_) (fun _ => ?_) <;> conv => whnf))
            all_goals (first | (exfalso; omega) | contradiction | skip)
            refine next_u (i - 1) (show (i - 1 + 1).toNat < (i + 1).toNat by omega) ⟨(by omega : -1 ≤ i - 1), (by omega : i - 1 < ns.length)⟩ ?_
            conv => whnf
            repeat' (first
              | exact trivial
              | exact rfl
              | exact Or.inl (And.intro rfl rfl)
              | exact pureL_ii _ _
              | exact pureL_nd _ _
              | refine le_bools ?_
              | refine Or.inr ?_
              | refine And.intro ?_ ?_
              | exact Nat.le_of_ble_eq_true rfl
              | exact int_eq (by rw [IntWalk.i64_in _ (by omega)] <;> omega))
            all_goals (first | (rw [hn]; done) | (rw [hn]; rfl) | skip)
          · have hl' : ((neI ns i).set (ns.getD i.toNat default).a.toNat true).length = ns.length := by rw [List.length_set]; exact hl
            have hb2 : ((neI ns i).set (ns.getD i.toNat default).a.toNat true).getD (i.toNat * 1) false = true := by
              rw [Nat.mul_one, getD_setG (by omega)]; split
              · rfl
              · exact hb
            have hb' : ((neI ns i).set (ns.getD i.toNat default).a.toNat true).getD i.toNat false = true := by
              rw [getD_setG (by omega)]; split
              · rfl
              · exact hb
            by_cases o2 : 6 ≤ (ns.getD i.toNat default).op ∧ (ns.getD i.toNat default).op ≤ 10
            · have t2 : ¬ twoP3 (ns.getD i.toNat default).op := by unfold twoP3; omega
              have hn : neI ns (i - 1) = (neI ns i).set (ns.getD i.toNat default).a.toNat true := by rw [hn0, pcN_1 o2]; rfl
              conv => whnf
              repeat' (first
                | (refine aIf_t ?_; conv => whnf)
                | (refine aIf_f ?_; conv => whnf)
                | (refine aGet_in rfl ?_; conv => whnf)
                | (refine And.intro (by omega) ?_; conv => whnf)
                | (refine And.intro (Nat.le_of_ble_eq_true rfl) ?_; conv => whnf)
                | (refine callG_t ?_; conv => whnf)
                | (refine append_same ?_; conv => whnf)
                | (refine part_nd (by omega) ?_; conv => whnf)
                | (refine getb_n (by omega) ?_; conv => whnf)
                | (refine setb_n ?_ (by omega); conv => whnf)
                | (refine l3Two_call trivial ?_; conv => whnf)
                | (refine l3One_call trivial ?_; conv => whnf)
                | (refine And.intro rfl (And.intro rfl (And.intro (by first | omega | (rw [List.length_map]; omega)) ?_)); conv => whnf)
                | (refine set_bool ?_ (by omega); conv => whnf)
                | (refine set_force ?_; conv => whnf)
                | (refine And.intro (by kernel_rfl) ?_; conv => whnf)
                | (refine aIf_tt (by assumption) ?_; conv => whnf)
                | refine aIf_eqt ?_
                | refine aIf_eqf ?_
                | (refine aIf_dec (fun _ => ?_) (fun _ => ?_) <;> conv => whnf))
              all_goals (first | (exfalso; omega) | contradiction | skip)
              refine next_u (i - 1) (show (i - 1 + 1).toNat < (i + 1).toNat by omega) ⟨(by omega : -1 ≤ i - 1), (by omega : i - 1 < ns.length)⟩ ?_
              conv => whnf
              repeat' (first
                | exact trivial
                | exact rfl
                | exact Or.inl (And.intro rfl rfl)
                | exact pureL_ii _ _
                | exact pureL_nd _ _
                | refine le_bools ?_
                | refine Or.inr ?_
                | refine And.intro ?_ ?_
                | exact Nat.le_of_ble_eq_true rfl
                | exact int_eq (by rw [IntWalk.i64_in _ (by omega)] <;> omega))
              all_goals (first | (rw [hn]; done) | (rw [hn]; rfl) | skip)
            · have t2 : twoP3 (ns.getD i.toNat default).op := by unfold twoP3; omega
              have hn : neI ns (i - 1) = ((neI ns i).set (ns.getD i.toNat default).a.toNat true).set (ns.getD i.toNat default).b.toNat true := by rw [hn0, pcN_2 o1 o2]; rfl
              conv => whnf
              repeat' (first
                | (refine aIf_t ?_; conv => whnf)
                | (refine aIf_f ?_; conv => whnf)
                | (refine aGet_in rfl ?_; conv => whnf)
                | (refine And.intro (by omega) ?_; conv => whnf)
                | (refine And.intro (Nat.le_of_ble_eq_true rfl) ?_; conv => whnf)
                | (refine callG_t ?_; conv => whnf)
                | (refine append_same ?_; conv => whnf)
                | (refine part_nd (by omega) ?_; conv => whnf)
                | (refine getb_n (by omega) ?_; conv => whnf)
                | (refine setb_n ?_ (by omega); conv => whnf)
                | (refine l3Two_call trivial ?_; conv => whnf)
                | (refine l3One_call trivial ?_; conv => whnf)
                | (refine And.intro rfl (And.intro rfl (And.intro (by first | omega | (rw [List.length_map]; omega)) ?_)); conv => whnf)
                | (refine set_bool ?_ (by omega); conv => whnf)
                | (refine set_force ?_; conv => whnf)
                | (refine And.intro (by kernel_rfl) ?_; conv => whnf)
                | (refine aIf_tt (by assumption) ?_; conv => whnf)
                | refine aIf_eqt ?_
                | refine aIf_eqf ?_
                | (refine aIf_dec (fun _ => ?_) (fun _ => ?_) <;> conv => whnf))
              all_goals (first | (exfalso; omega) | contradiction | skip)
              refine next_u (i - 1) (show (i - 1 + 1).toNat < (i + 1).toNat by omega) ⟨(by omega : -1 ≤ i - 1), (by omega : i - 1 < ns.length)⟩ ?_
              conv => whnf
              repeat' (first
                | exact trivial
                | exact rfl
                | exact Or.inl (And.intro rfl rfl)
                | exact pureL_ii _ _
                | exact pureL_nd _ _
                | refine le_bools ?_
                | refine Or.inr ?_
                | refine And.intro ?_ ?_
                | exact Nat.le_of_ble_eq_true rfl
                | exact int_eq (by rw [IntWalk.i64_in _ (by omega)] <;> omega))
              all_goals (first | (rw [hn]; done) | (rw [hn]; rfl) | skip)
      · have he : i = -1 := by omega
        subst he
        conv => whnf
        repeat' (first
          | (refine aIf_f ?_; conv => whnf)
          | (refine append_same ?_; conv => whnf))
        all_goals (first | (exfalso; omega) | contradiction | skip)
        exact retBM (if_pos hM) rfl (by rw [hl]; rfl)
theorem sNeededOf_call {c : Nat} {xss : List (List Int)} {ns : List Nd} {env : List AV} {rows : List Row} {ctr low : Nat} {k : AV → St → Prop} (hpre : eP ns)
    (h : k (.ref rows.length ctr 0 (neL xss ns).length) ⟨env, rows ++ [⟨ctr, 4, 1, (neL xss ns).map .bool⟩], ctr + 1, low⟩) :
    CallB Try.prog 29 ⟨env, rows, ctr, low⟩ [.agg [.sl c xss.length (xss.map (slI c)), .sl c ns.length (ns.flatMap (ndC c))]] k := callR_in sNeededOf_sound (c, xss, ns) hpre (protL_bools _) h
theorem iNeededOf_call {c : Nat} {xss : List (List Int)} {ns : List Nd} {env : List AV} {rows : List Row} {ctr low : Nat} {k : AV → St → Prop} (hpre : eP ns)
    (h : k (.ref rows.length ctr 0 (neL xss ns).length) ⟨env, rows ++ [⟨ctr, 4, 1, (neL xss ns).map .bool⟩], ctr + 1, low⟩) :
    CallB Try.prog 24 ⟨env, rows, ctr, low⟩ [.agg [.sl c xss.length (xss.map (slI c)), .sl c ns.length (ns.flatMap (ndC c))]] k := callR_in iNeededOf_sound (c, xss, ns) hpre (protL_bools _) h
end Go.Proofs.Ytpbenelmklggcaa

/- Chapter 6: which nodes are needed, and how often they are used. -/
namespace Go.Proofs.Ytpbenelmklggcaa
set_option maxRecDepth 20000
open Go.RowKit Go.Am
theorem neL_len {xss : List (List Int)} {ns : List Nd} (h : (shM xss ns).2 = true) : (neL xss ns).length = ns.length := by
  unfold neL; rw [if_pos h, neI_length]
end Go.Proofs.Ytpbenelmklggcaa
