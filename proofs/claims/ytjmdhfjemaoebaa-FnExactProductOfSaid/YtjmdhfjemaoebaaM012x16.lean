import Derived.Test.YtjmdhfjemaoebaaM012x12
import Derived.Test.YtjmdhfjemaoebaaM012x13
import Derived.Test.YtjmdhfjemaoebaaM012x15
import Derived.Test.YtjmdhfjemaoebaaM012x10
import Derived.Handed
import Derived.JoinedOf
import Derived.Test.YtjmdhfjemaoebaaRows
import Derived.Test.YtjmdhfjemaoebaaM012x11
/- TurnOk. -/
namespace Go.Proofs.Ytjmdhfjemaoebaa
set_option maxRecDepth 20000
open Go.RowKit Go.Am
attribute [local irreducible] aPlan aGet aIf aLoop aCall RetB NextB CallB CallG aCut aSet aAppend

/-- The axes that are seen among the first k; none, when one is no axis or comes twice. -/
def turnTo (zs : List Int) (n : Int) : Nat → Option (List Bool)
  | 0 => some (List.replicate n.toNat false)
  | k + 1 =>
    match turnTo zs n k with
    | some bs => if 0 ≤ zs.getD k 0 ∧ zs.getD k 0 < n ∧ bs.getD (zs.getD k 0).toNat false = false then some (bs.set (zs.getD k 0).toNat true) else none
    | none => none
theorem turnTo_next {zs : List Int} {n : Int} {k : Nat} {bs : List Bool} (h : turnTo zs n k = some bs) (h' : 0 ≤ zs.getD k 0 ∧ zs.getD k 0 < n ∧ bs.getD (zs.getD k 0).toNat false = false) : turnTo zs n (k + 1) = some (bs.set (zs.getD k 0).toNat true) := by
  unfold turnTo; rw [h]; simp only; rw [if_pos h']
theorem turnTo_f {zs : List Int} {n : Int} {k : Nat} {bs : List Bool} (h : turnTo zs n k = some bs) (h' : ¬ (0 ≤ zs.getD k 0 ∧ zs.getD k 0 < n ∧ bs.getD (zs.getD k 0).toNat false = false)) : turnTo zs n (k + 1) = none := by
  unfold turnTo; rw [h]; simp only; rw [if_neg h']
theorem turnTo_none {zs : List Int} {n : Int} {k : Nat} (h : turnTo zs n k = none) : ∀ d, turnTo zs n (k + d) = none
  | 0 => h
  | d + 1 => by
    have := turnTo_none h d
    show turnTo zs n (k + d + 1) = none
    unfold turnTo; rw [this]
def turnOk (zs : List Int) (n : Int) : Bool := decide (n ≤ 3 ∧ (zs.length : Int) = n) && (turnTo zs n zs.length).isSome
theorem turnOk_f {zs : List Int} {n : Int} (h : ¬ (n ≤ 3 ∧ (zs.length : Int) = n)) : turnOk zs n = false := by unfold turnOk; simp [h]
theorem turnOk_fk {zs : List Int} {n : Int} {k : Nat} {bs : List Bool} (hk : k < zs.length) (h : turnTo zs n k = some bs) (h' : ¬ (0 ≤ zs.getD k 0 ∧ zs.getD k 0 < n ∧ bs.getD (zs.getD k 0).toNat false = false)) : turnOk zs n = false := by
  have := turnTo_none (turnTo_f h h') (zs.length - (k + 1))
  rw [show k + 1 + (zs.length - (k + 1)) = zs.length by omega] at this
  unfold turnOk; simp [this]
theorem turnOk_t {zs : List Int} {n : Int} {bs : List Bool} (h : n ≤ 3 ∧ (zs.length : Int) = n) (h' : turnTo zs n zs.length = some bs) : turnOk zs n = true := by unfold turnOk; simp [h, h']

def sTurnOk : CSpec := fnS (ι := Nat × List Int × Int) (fun | (c, zs, n) => [.sl c zs.length (zs.map (.int .i64)), .int .i64 n]) (fun _ => True) (fun | (_, zs, n) => .bool (turnOk zs n))

def difOk (zs : List Int) (n : Int) : Bool := (turnTo zs n zs.length).isSome
theorem difOk_fk {zs : List Int} {n : Int} {k : Nat} {bs : List Bool} (hk : k < zs.length) (h : turnTo zs n k = some bs) (h' : ¬ (0 ≤ zs.getD k 0 ∧ zs.getD k 0 < n ∧ bs.getD (zs.getD k 0).toNat false = false)) : difOk zs n = false := by
  have := turnTo_none (turnTo_f h h') (zs.length - (k + 1))
  rw [show k + 1 + (zs.length - (k + 1)) = zs.length by omega] at this
  unfold difOk; rw [this]; rfl
theorem difOk_t {zs : List Int} {n : Int} {bs : List Bool} (h' : turnTo zs n zs.length = some bs) : difOk zs n = true := by unfold difOk; rw [h']; rfl
theorem differentOk_sound : Sound Try.prog 155 (fnS (ι := Nat × List Int × Int) (fun | (c, zs, n) => [.sl c zs.length (zs.map (.int .i64)), .int .i64 n]) (fun | (_, _, n) => 0 ≤ n ∧ n ≤ 1048576) (fun | (_, zs, n) => .bool (difOk zs n))) := by
  refine sound_of Try.func155 rfl (enters_of Try.func155 (by kernel_rfl) (by kernel_rfl)) ?_
  rintro ⟨c, zs, n⟩ hpre
  have hpre : 0 ≤ n ∧ n ≤ 1048576 := hpre
  have hmax : maxLen = 9223372036854775807 := rfl
  conv => whnf
  repeat' (first
    | (refine fun (_ : _ ≤ maxLen) => ?_; conv => whnf)
    | (refine append_same ?_; conv => whnf)
    | (refine And.intro (And.intro (Int.le_refl _) (And.intro (by kernel_rfl) (And.intro rfl (by kernel_rfl)))) (And.intro (And.intro (by omega) (And.intro (bytes_le (b := 1) rfl (by omega)) (by omega))) ?_); conv => whnf))
  refine loop_u (ι := Nat × List Bool) [false, true, false, false, false, true, false, false, false, false, true, true, true, false, false, false, false, false, false, false, false, false, false, false, false, false, false, false, false, false] (fun | (k, _) => [(12, .int .i64 k)]) (fun | (_, bs) => [(0, bs.map .bool)]) (fun | (k, bs) => k ≤ zs.length ∧ bs.length = n.toNat ∧ turnTo zs n k = some bs) (fun x => zs.length - x.1) ((0, List.replicate n.toNat false)) ⟨Nat.zero_le _, by simp, rfl⟩ ?_ ?_
  · conv => whnf
    repeat' (first
      | exact trivial
      | exact rfl
      | exact pureL_ints _ _
      | exact le_bools (rep_bools _)
      | refine And.intro ?_ ?_
      | exact Nat.le_of_ble_eq_true rfl)
  · rintro ⟨k, bs⟩ ⟨hk, hl, ht⟩
    have hk : k ≤ zs.length := hk
    have hl : bs.length = n.toNat := hl
    have ht : turnTo zs n k = some bs := ht
    conv => whnf
    repeat' (first
      | (refine aIf_t ?_; conv => whnf)
      | (refine aIf_f ?_; conv => whnf)
      | (refine get_nat (by omega) ?_; conv => whnf)
      | (refine And.intro (by omega) ?_; conv => whnf)
      | (refine callG_t ?_; conv => whnf)
      | (refine indexOk_call trivial ?_; conv => whnf)
      | (refine append_same ?_; conv => whnf)
      | (refine And.intro rfl (And.intro rfl (And.intro (by first | omega | (rw [List.length_map]; omega)) ?_)); conv => whnf)
      | (refine set_bool ?_ (by omega); conv => whnf)
      | (refine get_bool0 (by omega) ?_; conv => whnf)
      | refine aIf_eqf ?_
      | refine aIf_not ?_
      | (refine aIf_dec (fun _ => ?_) (fun _ => ?_) <;> conv => whnf)
      | (refine aIf_in (fun _ => ?_) (fun _ => ?_) <;> conv => whnf))
    all_goals (first
      | (exfalso; omega)
      | exact retS rfl (congrArg AV.bool (difOk_fk (k := k) (by omega) ht (by omega)).symm)
      | (rename_i hb; exact retS rfl (congrArg AV.bool (difOk_fk (k := k) (by omega) ht (by rw [hb]; simp)).symm))
      | (have e : k = zs.length := by omega
         subst e
         exact retS rfl (congrArg AV.bool (difOk_t ht).symm))
      | skip)
    rename_i hi hb
    refine next_u (k + 1, bs.set (zs.getD k 0).toNat true) (show zs.length - (k + 1) < zs.length - k by omega) ⟨(show k + 1 ≤ zs.length by omega), by simpa using hl, turnTo_next ht ⟨hi.1, hi.2, hb⟩⟩ ?_
    conv => whnf
    repeat' (first
      | exact trivial
      | exact rfl
      | exact pureL_ints _ _
      | exact le_bools rfl
      | refine And.intro ?_ ?_
      | exact Nat.le_of_ble_eq_true rfl
      | exact int_eq (by rw [IntWalk.i64_in _ (by omega)] <;> omega))
theorem differentOk_call {c : Nat} {zs : List Int} {n : Int} {env : List AV} {rows : List Row} {ctr low : Nat} {k : AV → St → Prop} (hpre : 0 ≤ n ∧ n ≤ 1048576) (h : k (.bool (difOk zs n)) ⟨env, rows, ctr + 1, low⟩) :
    CallB Try.prog 155 ⟨env, rows, ctr, low⟩ [.sl c zs.length (zs.map (.int .i64)), .int .i64 n] k := callS_in differentOk_sound (c, zs, n) hpre rfl h
set_option maxRecDepth 10000 in
theorem iTurnOk_sound : Sound Try.prog 175 sTurnOk := by
  refine sound_of Try.func175 rfl (enters_of Try.func175 (by kernel_rfl) (by kernel_rfl)) ?_
  rintro ⟨c, zs, n⟩ -
  by_cases hn : n ≤ 3 ∧ (zs.length : Int) = n
  · have h : turnOk zs n = difOk zs n := by unfold turnOk difOk; rw [decide_eq_true hn, Bool.true_and]
    conv => whnf
    repeat' (first
      | (refine aIf_t ?_; conv => whnf)
      | (refine aIf_f ?_; conv => whnf)
      | (refine fun (_ : _ ≤ maxLen) => ?_; conv => whnf)
      | (refine callG_t ?_; conv => whnf)
      | (refine differentOk_call (by first | omega | assumption | (refine ⟨?_, ?_⟩ <;> first | assumption | omega) | (refine ⟨?_, ?_, ?_⟩ <;> first | assumption | omega)) ?_; conv => whnf)
      | (refine append_same ?_; conv => whnf)
      | (refine And.intro (pureL_ints _ _) ?_; conv => whnf)
      | refine aIf_eqt ?_
      | (refine aIf_dec (fun _ => ?_) (fun _ => ?_) <;> conv => whnf))
    all_goals (first | (exfalso; omega) | exact retS rfl (congrArg AV.bool h.symm))
  · conv => whnf
    repeat' (first
      | (refine aIf_t ?_; conv => whnf)
      | (refine aIf_f ?_; conv => whnf)
      | (refine fun (_ : _ ≤ maxLen) => ?_; conv => whnf)
      | (refine And.intro (by omega) ?_; conv => whnf)
      | (refine callG_t ?_; conv => whnf)
      | (refine differentOk_call (by first | omega | assumption | (refine ⟨?_, ?_⟩ <;> first | assumption | omega) | (refine ⟨?_, ?_, ?_⟩ <;> first | assumption | omega)) ?_; conv => whnf)
      | (refine append_same ?_; conv => whnf)
      | refine aIf_eqt ?_
      | (refine aIf_dec (fun _ => ?_) (fun _ => ?_) <;> conv => whnf))
    all_goals (first | (exfalso; omega) | exact retS rfl (congrArg AV.bool (turnOk_f hn).symm))
theorem iTurnOk_call {c : Nat} {zs : List Int} {n : Int} {env : List AV} {rows : List Row} {ctr low : Nat} {k : AV → St → Prop} (h : k (.bool (turnOk zs n)) ⟨env, rows, ctr + 1, low⟩) :
    CallB Try.prog 175 ⟨env, rows, ctr, low⟩ [.sl c zs.length (zs.map (.int .i64)), .int .i64 n] k := callS_in iTurnOk_sound (c, zs, n) trivial rfl h

set_option maxRecDepth 10000 in
theorem sTurnOk_sound : Sound Try.prog 165 sTurnOk := by
  refine sound_of Try.func165 rfl (enters_of Try.func165 (by kernel_rfl) (by kernel_rfl)) ?_
  rintro ⟨c, zs, n⟩ -
  conv => whnf
  repeat' (first
    | (refine aIf_t ?_; conv => whnf)
    | (refine aIf_f ?_; conv => whnf)
    | (refine fun (_ : _ ≤ maxLen) => ?_; conv => whnf)
    | (refine append_same ?_; conv => whnf)
    | (refine And.intro (And.intro (Int.le_refl _) (And.intro (by kernel_rfl) (And.intro rfl (by kernel_rfl)))) (And.intro (And.intro (by omega) (And.intro (bytes_le (b := 1) rfl (by omega)) (by omega))) ?_); conv => whnf)
    | refine aIf_eqf ?_
    | refine aIf_not ?_
    | (refine aIf_dec (fun _ => ?_) (fun _ => ?_) <;> conv => whnf))
  · exact retS rfl (congrArg AV.bool (turnOk_f (by omega)).symm)
  · have hn' : n ≤ 3 ∧ (zs.length : Int) = n := by omega
    have hw : IntKind.i64.wrap (n - 1) = n - 1 := IntWalk.i64_in _ (by omega)
    refine loop_in (ι := Nat × List Bool) (fun | (k, bs) => ⟨[.sl c zs.length (zs.map (.int .i64)), .int .i64 n, .un, .un, .bool false, .ref 0 1 0 n.toNat, .int .i64 k, .un, .un, .un, .un, .un, .un, .un, .un, .un, .un, .un, .un, .un, .un, .un, .un, .un, .un, .un, .un, .un, .un, .un, .un, .un, .un, .un, .un, .un, .un, .un, .un, .un, .un, .un, .un, .un, .un], [⟨1, 4, 1, bs.map .bool⟩], 2, 0⟩)
      (fun x => x.1 ≤ zs.length ∧ x.2.length = n.toNat ∧ turnTo zs n x.1 = some x.2) (fun x => zs.length - x.1) (0, List.replicate n.toNat false) ⟨Nat.zero_le _, by simp, rfl⟩ ?_ ?_
    · repeat' (first
        | exact trivial
        | exact rfl
        | exact pureL_ints _ _
        | exact le_bools (rep_bools _)
        | refine And.intro ?_ ?_
        | exact Nat.le_of_ble_eq_true rfl)
    · rintro ⟨k, bs⟩ ⟨hk, hl, ht⟩
      have hk : k ≤ zs.length := hk
      have hl : bs.length = n.toNat := hl
      have ht : turnTo zs n k = some bs := ht
      conv => whnf
      repeat' (first
        | (refine aIf_t ?_; conv => whnf)
        | (refine aIf_f ?_; conv => whnf)
        | (refine get_nat (by omega) ?_; conv => whnf)
        | (refine And.intro (by omega) ?_; conv => whnf)
        | (refine callG_t ?_; conv => whnf)
        | (refine append_same ?_; conv => whnf)
        | (refine in_call ?_; conv => whnf)
        | (refine And.intro rfl (And.intro rfl (And.intro (by first | omega | (rw [List.length_map]; omega)) ?_)); conv => whnf)
        | (refine set_bool ?_ (by omega); conv => whnf)
        | (refine get_bool0 (by omega) ?_; conv => whnf)
        | refine aIf_eqf ?_
        | refine aIf_not ?_
        | (refine aIf_dec (fun _ => ?_) (fun _ => ?_) <;> conv => whnf)
        | (refine aIf_in (fun _ => ?_) (fun _ => ?_) <;> conv => whnf))
      · rename_i hb
        exact retS rfl (congrArg AV.bool (turnOk_fk (k := k) (by omega) ht (by rw [hb]; simp)).symm)
      · rename_i hb
        refine next_in (k + 1, bs.set (zs.getD k 0).toNat true) (show zs.length - (k + 1) < zs.length - k by omega) ⟨(show k + 1 ≤ zs.length by omega), by simpa using hl, turnTo_next ht ⟨by omega, by omega, hb⟩⟩ ?_
        have hmax : maxLen = 9223372036854775807 := rfl
        repeat' (first
          | exact trivial
          | exact rfl
          | exact pureL_ints _ _
          | exact le_bools rfl
          | refine And.intro ?_ ?_
          | exact Nat.le_of_ble_eq_true rfl
          | exact int_eq (by rw [IntWalk.i64_in _ (by omega)] <;> omega))
      · exact retS rfl (congrArg AV.bool (turnOk_fk (k := k) (by omega) ht (by omega)).symm)
      · have e : k = zs.length := by omega
        subst e
        exact retS rfl (congrArg AV.bool (turnOk_t hn' ht).symm)
  · exact retS rfl (congrArg AV.bool (turnOk_f (by omega)).symm)
theorem sTurnOk_call {c : Nat} {zs : List Int} {n : Int} {env : List AV} {rows : List Row} {ctr low : Nat} {k : AV → St → Prop} (h : k (.bool (turnOk zs n)) ⟨env, rows, ctr + 1, low⟩) :
    CallB Try.prog 165 ⟨env, rows, ctr, low⟩ [.sl c zs.length (zs.map (.int .i64)), .int .i64 n] k := callS_in sTurnOk_sound (c, zs, n) trivial rfl h
end Go.Proofs.Ytjmdhfjemaoebaa

/- TurnShape and BackTurn. -/
namespace Go.Proofs.Ytjmdhfjemaoebaa
set_option maxRecDepth 20000
open Go.RowKit Go.Am
attribute [local irreducible] aPlan aGet aIf aLoop aCall RetB NextB CallB CallG aCut aSet

theorem turnTo_in {zs : List Int} {n : Int} : ∀ {m : Nat} {bs : List Bool}, turnTo zs n m = some bs → ∀ k, k < m → 0 ≤ zs.getD k 0 ∧ zs.getD k 0 < n
  | 0, _, _, k, hk => absurd hk (Nat.not_lt_zero _)
  | m + 1, bs, h, k, hk => by
    unfold turnTo at h
    split at h
    · rename_i bs' h'
      split at h
      · rename_i hc
        rcases Nat.lt_succ_iff_lt_or_eq.1 hk with h1 | rfl
        · exact turnTo_in h' k h1
        · exact ⟨hc.1, hc.2.1⟩
      · cases h
    · cases h
theorem turnOk_in {zs : List Int} {n : Int} (h : turnOk zs n = true) : (n ≤ 3 ∧ (zs.length : Int) = n) ∧ ∀ k, k < zs.length → 0 ≤ zs.getD k 0 ∧ zs.getD k 0 < n := by
  unfold turnOk at h
  simp only [Bool.and_eq_true, decide_eq_true_iff] at h
  obtain ⟨bs, hb⟩ := Option.isSome_iff_exists.1 h.2
  exact ⟨h.1, turnTo_in hb⟩

/-- Where each axis goes. -/
def backTo (zs : List Int) : Nat → List Int
  | 0 => List.replicate zs.length 0
  | k + 1 => (backTo zs k).set (zs.getD k 0).toNat (k : Int)
theorem backTo_length (zs : List Int) : ∀ k, (backTo zs k).length = zs.length
  | 0 => by simp [backTo]
  | k + 1 => by simp [backTo, backTo_length zs k]
def backOk (zs : List Int) : Bool := turnOk zs zs.length
def backL (zs : List Int) : List Int := if backOk zs = true then backTo zs zs.length else []
theorem backL_t {zs : List Int} (h : turnOk zs zs.length = true) : backL zs = backTo zs zs.length := if_pos h
theorem backL_f {zs : List Int} (h : turnOk zs zs.length = false) : backL zs = [] := if_neg (by unfold backOk; rw [h]; decide)
theorem backL_le (zs : List Int) : (backL zs).length ≤ zs.length := by
  unfold backL; split
  · exact Nat.le_of_eq (backTo_length zs _)
  · exact Nat.zero_le _

def sBackTurn : CSpec := fnLB (ι := Nat × List Int) 3 (fun | (c, zs) => [.sl c zs.length (zs.map (.int .i64))]) (fun | (_, zs) => zs.length ≤ 1048576) (fun | (_, zs) => backL zs) (fun | (_, zs) => backOk zs)
theorem back_end {env : List AV} {rows : List Row} {ctr τ ver : Nat} {zs zs' : List Int} {b : Bool} {r : Row} {n : Nat} (e1 : backL zs = zs') (hr : rows[τ]? = some r) (hv : r.ver = ver) (e : r = ⟨ver, 3, 1, zs'.map (.int .i64)⟩) (hn : n = zs'.length) (hb : b = backOk zs) :
    RetB ⟨env, rows, ctr, 0⟩ [] (fun r ic news => r = .tup [.ref 0 0 0 (backL zs).length, .bool (backOk zs)] ∧ ic = [] ∧ news = [⟨0, 3, 1, (backL zs).map (.int .i64)⟩]) (.tup [.ref τ ver 0 n, .bool b]) := by
  rw [e1]; exact retLB hr hv e hn hb

end Go.Proofs.Ytjmdhfjemaoebaa

/- TurnShape. -/
namespace Go.Proofs.Ytjmdhfjemaoebaa
set_option maxRecDepth 20000
open Go.RowKit Go.Am
attribute [local irreducible] aPlan aGet aIf aLoop aCall RetB NextB CallB CallG aCut aSet

def turned (xs ax : List Int) : List Int := ax.map fun a => xs.getD a.toNat 0
theorem turned_length (xs ax : List Int) : (turned xs ax).length = ax.length := by simp [turned]
theorem turned_getD {xs ax : List Int} {j : Nat} (h : j < ax.length) : (turned xs ax).getD j 0 = xs.getD (ax.getD j 0).toNat 0 := by
  simp [turned, List.getD, List.getElem?_map, List.getElem?_eq_getElem h]
def tsOk (xs ax : List Int) : Bool := shapeOk xs && turnOk ax xs.length
def tsL (xs ax : List Int) : List Int := if tsOk xs ax = true then turned xs ax else []
theorem tsL_t {xs ax : List Int} (h : shapeOk xs = true) (h' : turnOk ax xs.length = true) : tsL xs ax = turned xs ax ∧ true = tsOk xs ax := ⟨if_pos (by unfold tsOk; rw [h, h']; rfl), by unfold tsOk; rw [h, h']; rfl⟩
theorem tsL_f1 {xs ax : List Int} (h : shapeOk xs = false) : tsL xs ax = [] ∧ false = tsOk xs ax := ⟨if_neg (by unfold tsOk; rw [h, Bool.false_and]; decide), by unfold tsOk; rw [h]; rfl⟩
theorem tsL_f2 {xs ax : List Int} (h' : turnOk ax xs.length = false) : tsL xs ax = [] ∧ false = tsOk xs ax := ⟨if_neg (by unfold tsOk; rw [h', Bool.and_false]; decide), by unfold tsOk; rw [h', Bool.and_false]⟩
theorem tsL_le (xs ax : List Int) : (tsL xs ax).length ≤ ax.length := by
  unfold tsL; split
  · exact Nat.le_of_eq (turned_length _ _)
  · exact Nat.zero_le _

def sTurnShape : CSpec := fnLB (ι := Nat × List Int × Nat × List Int) 3 (fun | (c, xs, d, ax) => [.sl c xs.length (xs.map (.int .i64)), .sl d ax.length (ax.map (.int .i64))]) (fun | (_, xs, _, ax) => xs.length ≤ 1048576 ∧ ax.length ≤ 1048576) (fun | (_, xs, _, ax) => tsL xs ax) (fun | (_, xs, _, ax) => tsOk xs ax)
theorem ts_end {env : List AV} {rows : List Row} {ctr τ ver : Nat} {xs ax zs' : List Int} {b : Bool} {r : Row} {n : Nat} (e1 : tsL xs ax = zs' ∧ b = tsOk xs ax) (hr : rows[τ]? = some r) (hv : r.ver = ver) (e : r = ⟨ver, 3, 1, zs'.map (.int .i64)⟩) (hn : n = zs'.length) :
    RetB ⟨env, rows, ctr, 0⟩ [] (fun r ic news => r = .tup [.ref 0 0 0 (tsL xs ax).length, .bool (tsOk xs ax)] ∧ ic = [] ∧ news = [⟨0, 3, 1, (tsL xs ax).map (.int .i64)⟩]) (.tup [.ref τ ver 0 n, .bool b]) := by
  rw [e1.1]; exact retLB hr hv e hn e1.2

theorem pickNums_sound : Sound Try.prog 126 (fnL (ι := Nat × List Int × Nat × List Int) 3 (fun | (c, xs, d, ax) => [.sl c xs.length (xs.map (.int .i64)), .sl d ax.length (ax.map (.int .i64))]) (fun | (_, xs, _, ax) => ax.length ≤ 1048576 ∧ ∀ j, j < ax.length → 0 ≤ ax.getD j 0 ∧ ax.getD j 0 < xs.length) (fun | (_, xs, _, ax) => turned xs ax)) := by
  refine sound_of Try.func126 rfl (enters_of Try.func126 (by kernel_rfl) (by kernel_rfl)) ?_
  rintro ⟨c, xs, d, ax⟩ hpre
  obtain ⟨hpl, hin⟩ : ax.length ≤ 1048576 ∧ ∀ j, j < ax.length → 0 ≤ ax.getD j 0 ∧ ax.getD j 0 < xs.length := hpre
  have hmax : maxLen = 9223372036854775807 := rfl
  conv => whnf
  repeat' (first
    | (refine fun (_ : _ ≤ maxLen) => ?_; conv => whnf)
    | (refine And.intro (And.intro (Int.le_refl _) (And.intro (by kernel_rfl) (And.intro rfl (by kernel_rfl)))) (And.intro (And.intro (by omega) (And.intro (bytes_le (b := 8) rfl (by omega)) (by omega))) ?_); conv => whnf)
    | (refine append_same ?_; conv => whnf))
  refine loop_u (ι := Nat × List Int) [true, false, false, false, false, true, false, false, false, false, false, true, true, true, false, false, false, false, false, false, false, false, false, false, false, false, false] (fun | (k, _) => [(13, .int .i64 k)]) (fun | (_, ws) => [(1, ws.map (.int .i64))]) (fun | (k, ws) => k ≤ ax.length ∧ ws.length = ax.length ∧ ∀ j, j < k → ws.getD j 0 = xs.getD (ax.getD j 0).toNat 0) (fun x => ax.length - x.1) ((0, List.replicate ax.length 0)) ⟨Nat.zero_le _, by simp, fun j hj => absurd hj (Nat.not_lt_zero _)⟩ ?_ ?_
  · conv => whnf
    repeat' (first
      | exact trivial
      | exact rfl
      | exact pureL_ints _ _
      | exact Or.inl (And.intro rfl rfl)
      | exact le_ints (rep_ints _ _)
      | refine And.intro ?_ ?_
      | exact Nat.le_of_ble_eq_true rfl)
  · rintro ⟨k, ws⟩ ⟨hk, hl, hall⟩
    have hk : k ≤ ax.length := hk
    have hl : ws.length = ax.length := hl
    have hall : ∀ j, j < k → ws.getD j 0 = xs.getD (ax.getD j 0).toNat 0 := hall
    have hink := hin k
    by_cases hlt : k < ax.length
    · have hink := hink hlt
      conv => whnf
      repeat' (first
        | (refine get_nat (by omega) ?_; conv => whnf)
        | (refine get_int (by omega) ?_; conv => whnf)
        | (refine And.intro (by omega) ?_; conv => whnf)
        | (refine append_same ?_; conv => whnf)
        | (refine And.intro rfl (And.intro rfl (And.intro (by first | omega | (rw [List.length_map]; omega)) ?_)); conv => whnf)
        | (refine set_nat ?_ (by omega); conv => whnf)
        | (refine aIf_dec (fun _ => ?_) (fun _ => ?_) <;> conv => whnf))
      all_goals (first | (exfalso; omega) | skip)
      refine next_u (k + 1, ws.set k (xs.getD (ax.getD k 0).toNat 0)) (show ax.length - (k + 1) < ax.length - k by omega) ⟨(show k + 1 ≤ ax.length by omega), by simpa using hl, fun j hj => ?_⟩ ?_
      · have hj : j < k + 1 := hj
        show (ws.set k (xs.getD (ax.getD k 0).toNat 0)).getD j 0 = _
        rw [getD_set (by omega)]
        split
        · rename_i e; rw [e]
        · exact hall j (by omega)
      · conv => whnf
        repeat' (first
          | exact trivial
          | exact rfl
          | exact pureL_ints _ _
          | exact Or.inl (And.intro rfl rfl)
          | exact le_ints rfl
          | refine And.intro ?_ ?_
          | exact Nat.le_of_ble_eq_true rfl
          | exact int_eq (by rw [IntWalk.i64_in _ (by omega)] <;> omega))
    · have e : k = ax.length := by omega
      have e : ws = turned xs ax := getD_ext (by rw [turned_length, hl]) fun j hj => by
        rw [turned_length] at hj
        rw [hall j (by omega), turned_getD hj]
      subst e
      conv => whnf
      repeat' (first
        | (refine get_nat (by omega) ?_; conv => whnf)
        | (refine And.intro (by omega) ?_; conv => whnf)
        | (refine append_same ?_; conv => whnf)
        | (refine set_nat ?_ (by omega); conv => whnf)
        | (refine aIf_dec (fun _ => ?_) (fun _ => ?_) <;> conv => whnf))
      all_goals (first | (exfalso; omega) | skip)
      exact retL rfl rfl rfl hl.symm
theorem pickNums_call {c d : Nat} {xs ax : List Int} {env : List AV} {rows : List Row} {ctr low : Nat} {k : AV → St → Prop} (hpre : ax.length ≤ 1048576 ∧ ∀ j, j < ax.length → 0 ≤ ax.getD j 0 ∧ ax.getD j 0 < xs.length) (h : k (.ref rows.length ctr 0 (turned xs ax).length) ⟨env, rows ++ [⟨ctr, 3, 1, (turned xs ax).map (.int .i64)⟩], ctr + 1, low⟩) :
    CallB Try.prog 126 ⟨env, rows, ctr, low⟩ [.sl c xs.length (xs.map (.int .i64)), .sl d ax.length (ax.map (.int .i64))] k := callL_in pickNums_sound (c, xs, d, ax) hpre h
set_option maxRecDepth 10000 in
theorem iTurnShape_sound : Sound Try.prog 173 sTurnShape := by
  refine sound_of Try.func173 rfl (enters_of Try.func173 (by kernel_rfl) (by kernel_rfl)) ?_
  rintro ⟨c, xs, d, ax⟩ hpre
  have hpre : xs.length ≤ 1048576 ∧ ax.length ≤ 1048576 := hpre
  cases hs : shapeOk xs with
  | false =>
    conv => whnf
    repeat' (first
      | (refine aIf_t ?_; conv => whnf)
      | (refine aIf_f ?_; conv => whnf)
      | (refine callG_t ?_; conv => whnf)
      | (refine append_same ?_; conv => whnf)
      | (refine And.intro (pureL_ints _ _) ?_; conv => whnf)
      | (refine iShapeOk_call ?_; conv => whnf)
      | (refine aIf_ff (by assumption) ?_; conv => whnf)
      | refine aIf_eqf ?_
      | refine aIf_not ?_)
    exact ts_end (tsL_f1 hs) rfl rfl rfl rfl
  | true =>
    cases ht : turnOk ax xs.length with
    | false =>
      conv => whnf
      repeat' (first
        | (refine aIf_t ?_; conv => whnf)
        | (refine aIf_f ?_; conv => whnf)
        | (refine fun (_ : _ ≤ maxLen) => ?_; conv => whnf)
        | (refine callG_t ?_; conv => whnf)
        | (refine append_same ?_; conv => whnf)
        | (refine And.intro (pureL_ints _ _) ?_; conv => whnf)
        | (refine iShapeOk_call ?_; conv => whnf)
        | (refine iTurnOk_call ?_; conv => whnf)
        | (refine aIf_tt (by assumption) ?_; conv => whnf)
        | (refine aIf_ff (by assumption) ?_; conv => whnf)
        | refine aIf_eqf ?_
        | refine aIf_not ?_)
      exact ts_end (tsL_f2 ht) rfl rfl rfl rfl
    | true =>
      have hin := (turnOk_in ht).2
      conv => whnf
      repeat' (first
        | (refine aIf_t ?_; conv => whnf)
        | (refine aIf_f ?_; conv => whnf)
        | (refine fun (_ : _ ≤ maxLen) => ?_; conv => whnf)
        | (refine callG_t ?_; conv => whnf)
        | (refine pickNums_call (by first | omega | assumption | (refine ⟨?_, ?_⟩ <;> first | assumption | omega) | (refine ⟨?_, ?_, ?_⟩ <;> first | assumption | omega)) ?_; conv => whnf)
        | (refine append_same ?_; conv => whnf)
        | (refine And.intro (pureL_ints _ _) ?_; conv => whnf)
        | (refine iShapeOk_call ?_; conv => whnf)
        | (refine iTurnOk_call ?_; conv => whnf)
        | (refine aIf_tt (by assumption) ?_; conv => whnf)
        | refine aIf_eqf ?_
        | refine aIf_not ?_)
      exact ts_end (tsL_t hs ht) rfl rfl rfl rfl

end Go.Proofs.Ytjmdhfjemaoebaa

/- l1Turn. -/
namespace Go.Proofs.Ytjmdhfjemaoebaa
set_option maxRecDepth 20000
open Go.RowKit Go.Am
theorem append_int {env : List AV} {rows : List Row} {ctr low τ ver n τ2 ver2 : Nat} {zs : List Int} {z : Int} {k : AV → St → Prop} (hr : rows[τ]? = some ⟨ver, 3, 1, zs.map (.int .i64)⟩) (hr2 : rows[τ2]? = some ⟨ver2, 3, 1, [.int .i64 z]⟩) (hn : n = zs.length) (hle : n ≤ 1000000) (hlow : low ≤ τ)
    (hk : k (.ref τ ctr 0 (n + 1)) ⟨env, rows.set τ ⟨ctr, 3, 1, (zs ++ [z]).map (.int .i64)⟩, ctr + 1, low⟩) : aAppend Try.prog ⟨env, rows, ctr, low⟩ 34 (.ref τ ver 0 n) (.ref τ2 ver2 0 1) k := by
  have hb : (bsz Try.prog 3) = some 8 := by kernel_rfl
  have hz : zeroCellsA Try.prog 3 = some [.int .i64 0] := by kernel_rfl
  have hu : Try.prog.underlying 34 = some (.slice 3) := by kernel_rfl
  have hs : ∀ K : Nat → Prop, K 1 → aSz Try.prog 3 K := fun K h => by
    have : tsz Try.prog 3 = some 1 := by kernel_rfl
    unfold aSz; rw [this]; exact h
  unfold aAppend
  rw [hu]
  simp only
  rw [hz]
  simp only
  refine hs _ ?_
  unfold aElems aRow
  simp only [hr2]
  rw [if_pos trivial, if_pos (.inr trivial)]
  refine ⟨⟨Nat.le_refl _, rfl⟩, ⟨rfl, by rw [hb]; rfl, by rw [hb]; decide⟩, ?_⟩
  simp only [hr]
  rw [if_pos trivial, if_pos (by simp)]
  refine ⟨by simp [hn], fun h => absurd h (by decide), fun _ h => ?_, fun _ _ => ⟨hlow, by rw [hb]; simp only [Option.getD_some]; omega, ?_⟩⟩
  · exfalso; simp at h; omega
  · have e : (zs.map (AV.int .i64)).take n = zs.map (.int .i64) := List.take_of_length_le (by simp [hn])
    simpa [e] using hk
attribute [local irreducible] aPlan aGet aIf aLoop aCall RetB NextB CallB CallG aCut aSet aAppend

theorem take_next {l : List Int} {k : Nat} (h : k < l.length) : l.take k ++ [l.getD k 0] = l.take (k + 1) := by
  rw [List.take_add_one, List.getElem?_eq_getElem h]
  simp [List.getD, List.getElem?_eq_getElem h]

set_option maxRecDepth 10000 in
theorem l1Turn_sound : Sound Try.prog 116 (fnL (ι := Nat × List Int × Nat × List Int) 3 (fun | (c, xs, d, ax) => [.sl c xs.length (xs.map (.int .i64)), .sl d ax.length (ax.map (.int .i64))]) (fun | (_, xs, _, ax) => ax.length ≤ 3 ∧ ∀ k, k < ax.length → 0 ≤ ax.getD k 0 ∧ ax.getD k 0 < xs.length) (fun | (_, xs, _, ax) => turned xs ax)) := by
  refine sound_of Try.func116 rfl (enters_of Try.func116 (by kernel_rfl) (by kernel_rfl)) ?_
  rintro ⟨c, xs, d, ax⟩ ⟨h3, hin⟩
  conv => whnf
  repeat' (first
    | (refine append_same ?_; conv => whnf)
    | (refine And.intro (And.intro (by kernel_rfl) (And.intro rfl (Nat.le_of_ble_eq_true rfl))) ?_; conv => whnf))
  refine loop_in (ι := Nat) (fun k => ⟨[.sl c xs.length (xs.map (.int .i64)), .sl d ax.length (ax.map (.int .i64)), .un, .un, .un, .ref 1 3 0 k, .int .i64 k, .un, .un, .un, .un, .un, .un, .un, .un, .un, .un, .un, .un, .un, .un, .un, .un, .un, .un], [⟨1, 3, 1, []⟩, ⟨3, 3, 1, ((turned xs ax).take k).map (.int .i64)⟩], 4, 0⟩)
    (fun k => k ≤ ax.length) (fun k => ax.length - k) 0 (Nat.zero_le _) ?_ ?_
  · repeat' (first
      | exact trivial
      | exact rfl
      | exact pureL_ints _ _
      | exact Or.inl (And.intro rfl rfl)
      | refine And.intro ?_ ?_
      | exact Nat.le_of_ble_eq_true rfl)
  · intro k hk
    have hk : k ≤ ax.length := hk
    have hin := hin k
    conv => whnf
    repeat' (first
      | (refine fun (_ : _ ≤ maxLen) => ?_; conv => whnf)
      | (refine get_nat (by omega) ?_; conv => whnf)
      | (refine get_int (by omega) ?_; conv => whnf)
      | (refine And.intro (by omega) ?_; conv => whnf)
      | (refine append_same ?_; conv => whnf)
      | (refine append_int rfl rfl (by first | rfl | (simp only [List.length_take, turned_length]; omega)) (by omega) (Nat.le_of_ble_eq_true rfl) ?_; conv => whnf)
      | (refine And.intro (And.intro (by kernel_rfl) (And.intro rfl (Nat.le_of_ble_eq_true rfl))) ?_; conv => whnf)
      | (refine aIf_dec (fun _ => ?_) (fun _ => ?_) <;> conv => whnf))
    · have e := take_next (l := turned xs ax) (k := k) (by rw [turned_length]; omega)
      rw [turned_getD (by omega)] at e
      rw [e]
      refine next_in (k + 1) (show ax.length - (k + 1) < ax.length - k by omega) (by omega) ?_
      repeat' (first
        | exact trivial
        | exact rfl
        | exact pureL_ints _ _
        | exact Or.inl (And.intro rfl rfl)
        | exact le_ints rfl
        | refine And.intro ?_ ?_
        | exact Nat.le_of_ble_eq_true rfl
        | exact int_eq (by rw [IntWalk.i64_in _ (by omega)] <;> omega))
    · have e : k = ax.length := by omega
      subst e
      have e : (turned xs ax).take ax.length = turned xs ax := List.take_of_length_le (by rw [turned_length]; exact Nat.le_refl _)
      rw [e]
      exact retL rfl rfl rfl (turned_length xs ax).symm
theorem l1Turn_call {c d : Nat} {xs ax : List Int} {env : List AV} {rows : List Row} {ctr low : Nat} {k : AV → St → Prop} (hpre : ax.length ≤ 3 ∧ ∀ k, k < ax.length → 0 ≤ ax.getD k 0 ∧ ax.getD k 0 < xs.length) (hk : k (.ref rows.length ctr 0 (turned xs ax).length) ⟨env, rows ++ [⟨ctr, 3, 1, (turned xs ax).map (.int .i64)⟩], ctr + 1, low⟩) :
    CallB Try.prog 116 ⟨env, rows, ctr, low⟩ [.sl c xs.length (xs.map (.int .i64)), .sl d ax.length (ax.map (.int .i64))] k := callL_in l1Turn_sound (c, xs, d, ax) hpre hk

set_option maxRecDepth 10000 in
theorem sTurnShape_sound : Sound Try.prog 159 sTurnShape := by
  refine sound_of Try.func159 rfl (enters_of Try.func159 (by kernel_rfl) (by kernel_rfl)) ?_
  rintro ⟨c, xs, d, ax⟩ hpre
  have hpre : xs.length ≤ 1048576 ∧ ax.length ≤ 1048576 := hpre
  by_cases ht : turnOk ax xs.length = true
  · have hin := turnOk_in ht
    have h3 : ax.length ≤ 3 := by omega
    have hcall := And.intro h3 hin.2
    conv => whnf
    repeat' (first
      | (refine aIf_t ?_; conv => whnf)
      | (refine aIf_f ?_; conv => whnf)
      | (refine fun (_ : _ ≤ maxLen) => ?_; conv => whnf)
      | (refine callG_t ?_; conv => whnf)
      | (refine append_same ?_; conv => whnf)
      | (refine And.intro (pureL_ints _ _) ?_; conv => whnf)
      | (refine sShapeOk_call ?_; conv => whnf)
      | (refine l1Turn_call (by assumption) ?_; conv => whnf)
      | (refine sTurnOk_call ?_; conv => whnf)
      | (refine aIf_tt (by assumption) ?_; conv => whnf)
      | refine aIf_eqf ?_
      | refine aIf_not ?_
      | (refine aIf_in (fun _ => ?_) (fun _ => ?_) <;> conv => whnf))
    all_goals (first
      | (rename_i h; rw [ht] at h; exact Bool.noConfusion h)
      | exact ts_end (tsL_t (by assumption) ht) rfl rfl rfl rfl
      | exact ts_end (tsL_f1 (by assumption)) rfl rfl rfl rfl)
  · have ht : turnOk ax xs.length = false := by simpa using ht
    conv => whnf
    repeat' (first
      | (refine aIf_t ?_; conv => whnf)
      | (refine aIf_f ?_; conv => whnf)
      | (refine fun (_ : _ ≤ maxLen) => ?_; conv => whnf)
      | (refine callG_t ?_; conv => whnf)
      | (refine append_same ?_; conv => whnf)
      | (refine And.intro (pureL_ints _ _) ?_; conv => whnf)
      | (refine sShapeOk_call ?_; conv => whnf)
      | (refine sTurnOk_call ?_; conv => whnf)
      | (refine aIf_ff (by assumption) ?_; conv => whnf)
      | refine aIf_eqf ?_
      | refine aIf_not ?_
      | (refine aIf_in (fun _ => ?_) (fun _ => ?_) <;> conv => whnf))
    all_goals (first
      | (rename_i h; rw [ht] at h; exact Bool.noConfusion h)
      | exact ts_end (tsL_f2 ht) rfl rfl rfl rfl)

theorem iTurnShape_call {c d : Nat} {xs ax : List Int} {env : List AV} {rows : List Row} {ctr low : Nat} {k : AV → St → Prop} (hpre : xs.length ≤ 1048576 ∧ ax.length ≤ 1048576) (hk : k (.tup [.ref rows.length ctr 0 (tsL xs ax).length, .bool (tsOk xs ax)]) ⟨env, rows ++ [⟨ctr, 3, 1, (tsL xs ax).map (.int .i64)⟩], ctr + 1, low⟩) :
    CallB Try.prog 173 ⟨env, rows, ctr, low⟩ [.sl c xs.length (xs.map (.int .i64)), .sl d ax.length (ax.map (.int .i64))] k := callLB_in iTurnShape_sound (c, xs, d, ax) hpre hk
theorem sTurnShape_call {c d : Nat} {xs ax : List Int} {env : List AV} {rows : List Row} {ctr low : Nat} {k : AV → St → Prop} (hpre : xs.length ≤ 1048576 ∧ ax.length ≤ 1048576) (hk : k (.tup [.ref rows.length ctr 0 (tsL xs ax).length, .bool (tsOk xs ax)]) ⟨env, rows ++ [⟨ctr, 3, 1, (tsL xs ax).map (.int .i64)⟩], ctr + 1, low⟩) :
    CallB Try.prog 159 ⟨env, rows, ctr, low⟩ [.sl c xs.length (xs.map (.int .i64)), .sl d ax.length (ax.map (.int .i64))] k := callLB_in sTurnShape_sound (c, xs, d, ax) hpre hk
end Go.Proofs.Ytjmdhfjemaoebaa

/- Chapter 2: copies, axes, what is told; NumAt, NegOf, FoldOf. -/
namespace Go.Proofs.Ytjmdhfjemaoebaa
set_option maxRecDepth 20000
open Go.RowKit Go.Am
theorem append_sl {env : List AV} {rows : List Row} {ctr low τ ver n c m : Nat} {zs ws : List Int} {cells : List AV} {k : AV → St → Prop} (hr : rows[τ]? = some ⟨ver, 3, 1, zs.map (.int .i64)⟩) (hc : cells = ws.map (.int .i64)) (hm : m = ws.length) (hn : n = zs.length) (hle : n + m ≤ 4000000) (hlow : low ≤ τ)
    (h0 : ws = [] → k (.ref τ ver 0 n) ⟨env, rows, ctr, low⟩)
    (hk : ws ≠ [] → k (.ref τ ctr 0 (n + m)) ⟨env, rows.set τ ⟨ctr, 3, 1, (zs ++ ws).map (.int .i64)⟩, ctr + 1, low⟩) : aAppend Try.prog ⟨env, rows, ctr, low⟩ 34 (.ref τ ver 0 n) (.sl c m cells) k := by
  have hb : (bsz Try.prog 3) = some 8 := by kernel_rfl
  have hz : zeroCellsA Try.prog 3 = some [.int .i64 0] := by kernel_rfl
  have hu : Try.prog.underlying 34 = some (.slice 3) := by kernel_rfl
  have hs : ∀ K : Nat → Prop, K 1 → aSz Try.prog 3 K := fun K h => by
    have : tsz Try.prog 3 = some 1 := by kernel_rfl
    unfold aSz; rw [this]; exact h
  subst hn; subst hm; subst hc
  unfold aAppend
  rw [hu]
  simp only
  rw [hz]
  simp only
  refine hs _ ?_
  unfold aElems aRow
  refine ⟨by simp, ⟨rfl, by rw [hb]; rfl, by rw [hb]; decide⟩, ?_⟩
  simp only [hr]
  rw [if_pos trivial, if_pos (by simp)]
  refine ⟨by simp, fun h => h0 (List.eq_nil_of_length_eq_zero h), fun h0' h => ?_, fun h1 _ => ⟨hlow, by rw [hb]; simp only [Option.getD_some]; omega, ?_⟩⟩
  · exfalso; simp at h; omega
  · have e : (zs.map (AV.int .i64)).take zs.length = zs.map (.int .i64) := List.take_of_length_le (by simp)
    have hne : ws ≠ [] := fun e => by subst e; simp at h1
    simpa [e] using hk hne
attribute [local irreducible] aPlan aGet aIf aLoop aCall RetB NextB CallB CallG aCut aSet aAppend

set_option maxRecDepth 10000 in
theorem copyNums_sound : Sound Try.prog 71 (fnL (ι := Nat × List Int) 3 (fun | (c, zs) => [.sl c zs.length (zs.map (.int .i64))]) (fun | (_, zs) => zs.length ≤ 1048576) (fun | (_, zs) => zs)) := by
  refine sound_of Try.func71 rfl (enters_of Try.func71 (by kernel_rfl) (by kernel_rfl)) ?_
  rintro ⟨c, zs⟩ hpre
  have hpre : zs.length ≤ 1048576 := hpre
  conv => whnf
  repeat' (first
    | (refine append_same ?_; conv => whnf)
    | (refine And.intro (And.intro (by kernel_rfl) (And.intro rfl (Nat.le_of_ble_eq_true rfl))) ?_; conv => whnf))
  refine append_sl (zs := []) (ws := zs) rfl rfl rfl rfl (by omega) (Nat.zero_le _) (fun e => ?_) (fun _ => ?_)
  · subst e
    conv => whnf
    repeat' (first
      | (refine append_same ?_; conv => whnf))
    exact retL rfl rfl rfl rfl
  · conv => whnf
    repeat' (first
      | (refine append_same ?_; conv => whnf))
    exact retL rfl rfl rfl (by simp)
theorem copyNums_call {c : Nat} {zs : List Int} {env : List AV} {rows : List Row} {ctr low : Nat} {k : AV → St → Prop} (hpre : zs.length ≤ 1048576) (h : k (.ref rows.length ctr 0 zs.length) ⟨env, rows ++ [⟨ctr, 3, 1, zs.map (.int .i64)⟩], ctr + 1, low⟩) :
    CallB Try.prog 71 ⟨env, rows, ctr, low⟩ [.sl c zs.length (zs.map (.int .i64))] k := callL_in copyNums_sound (c, zs) hpre h
set_option maxRecDepth 10000 in
theorem l2Nums_sound : Sound Try.prog 75 (fnL (ι := Nat × List Int) 3 (fun | (c, zs) => [.sl c zs.length (zs.map (.int .i64))]) (fun | (_, zs) => zs.length ≤ 1048576) (fun | (_, zs) => zs)) := by
  refine sound_of Try.func75 rfl (enters_of Try.func75 (by kernel_rfl) (by kernel_rfl)) ?_
  rintro ⟨c, zs⟩ hpre
  have hpre : zs.length ≤ 1048576 := hpre
  conv => whnf
  repeat' (first
    | (refine append_same ?_; conv => whnf)
    | (refine And.intro (And.intro (by kernel_rfl) (And.intro rfl (Nat.le_of_ble_eq_true rfl))) ?_; conv => whnf))
  refine append_sl (zs := []) (ws := zs) rfl rfl rfl rfl (by omega) (Nat.zero_le _) (fun e => ?_) (fun _ => ?_)
  · subst e
    conv => whnf
    repeat' (first
      | (refine append_same ?_; conv => whnf))
    exact retL rfl rfl rfl rfl
  · conv => whnf
    repeat' (first
      | (refine append_same ?_; conv => whnf))
    exact retL rfl rfl rfl (by simp)
theorem l2Nums_call {c : Nat} {zs : List Int} {env : List AV} {rows : List Row} {ctr low : Nat} {k : AV → St → Prop} (hpre : zs.length ≤ 1048576) (h : k (.ref rows.length ctr 0 zs.length) ⟨env, rows ++ [⟨ctr, 3, 1, zs.map (.int .i64)⟩], ctr + 1, low⟩) :
    CallB Try.prog 75 ⟨env, rows, ctr, low⟩ [.sl c zs.length (zs.map (.int .i64))] k := callL_in l2Nums_sound (c, zs) hpre h

set_option maxRecDepth 10000 in
theorem axisOk_sound : Sound Try.prog 172 (fnS (ι := Nat × List Int × Nat × List Int × Int) (fun | (c, xs, d, zs, i) => [.agg [.sl c xs.length (xs.map (.int .i64)), .sl d zs.length (zs.map (.int .i64))], .int .i64 i]) (fun _ => True) (fun | (_, xs, _, _, i) => .bool (decide (0 ≤ i ∧ i < xs.length)))) := by
  refine sound_of Try.func172 rfl (enters_of Try.func172 (by kernel_rfl) (by kernel_rfl)) ?_
  rintro ⟨c, xs, d, zs, i⟩ -
  conv => whnf
  repeat' (first
    | (refine aIf_t ?_; conv => whnf)
    | (refine aIf_f ?_; conv => whnf)
    | (refine fun (_ : _ ≤ maxLen) => ?_; conv => whnf)
    | (refine aGet_in rfl ?_; conv => whnf)
    | (refine And.intro rfl (And.intro (List.cons_ne_nil _ _) ?_); conv => whnf)
    | (refine append_same ?_; conv => whnf)
    | refine aIf_eqt ?_
    | (refine aIf_dec (fun _ => ?_) (fun _ => ?_) <;> conv => whnf))
  all_goals (refine retS rfl (congrArg AV.bool ?_); simp; try omega)
theorem axisOk_call {c d : Nat} {xs zs : List Int} {i : Int} {env : List AV} {rows : List Row} {ctr low : Nat} {k : AV → St → Prop} (h : k (.bool (decide (0 ≤ i ∧ i < xs.length))) ⟨env, rows, ctr + 1, low⟩) :
    CallB Try.prog 172 ⟨env, rows, ctr, low⟩ [.agg [.sl c xs.length (xs.map (.int .i64)), .sl d zs.length (zs.map (.int .i64))], .int .i64 i] k := callS_in axisOk_sound (c, xs, d, zs, i) trivial rfl h

theorem idx_lt {xs zs ps : List Int} (h : tensorOk xs zs = true) (h' : ¬ indexAt xs ps < 0) : placeOk xs ps = true ∧ indexAt xs ps = idxTo xs ps xs.length ∧ 0 ≤ indexAt xs ps ∧ indexAt xs ps < zs.length := by
  obtain ⟨h1, h2, h3⟩ := (tensorOk_iff _ _).1 h
  have hp : placeOk xs ps = true := by
    by_cases hp : placeOk xs ps = true
    · exact hp
    · exfalso; apply h'; unfold indexAt; rw [if_neg hp]; decide
  have e : indexAt xs ps = idxTo xs ps xs.length := if_pos hp
  obtain ⟨p1, p2, p3⟩ := (placeOk_iff _ _).1 hp
  have hr := idx_range h1 (ps := ps) p3 xs.length (Nat.le_refl _)
  rw [e]
  exact ⟨hp, rfl, by omega, by omega⟩
def naM (xs zs ps : List Int) : Int × Bool := if (tensorOk xs zs && placeOk xs ps) = true then (zs.getD (idxTo xs ps xs.length).toNat 0, true) else (0, false)
theorem na_t {xs zs ps : List Int} (h : tensorOk xs zs = true) (h' : placeOk xs ps = true) : naM xs zs ps = (zs.getD (idxTo xs ps xs.length).toNat 0, true) := by unfold naM; rw [if_pos (by rw [h, h']; rfl)]
theorem na_f1 {xs zs ps : List Int} (h : tensorOk xs zs = false) : naM xs zs ps = (0, false) := by unfold naM; rw [if_neg (by rw [h]; exact Bool.false_ne_true)]
theorem na_f2 {xs zs ps : List Int} (h : indexAt xs ps < 0) : naM xs zs ps = (0, false) := by
  unfold naM
  rw [if_neg]
  intro h'
  rw [Bool.and_eq_true] at h'
  obtain ⟨h1, h2⟩ := h'
  have e : indexAt xs ps = idxTo xs ps xs.length := if_pos h2
  obtain ⟨p1, p2, p3⟩ := (placeOk_iff _ _).1 h2
  have hr := idx_range p1 (ps := ps) p3 xs.length (Nat.le_refl _)
  omega
def sNumAt : CSpec := fnIB (ι := Nat × List Int × Nat × List Int × Nat × List Int) (fun | (c, xs, d, zs, e, ps) => [.agg [.sl c xs.length (xs.map (.int .i64)), .sl d zs.length (zs.map (.int .i64))], .sl e ps.length (ps.map (.int .i64))]) (fun _ => True) (fun | (_, xs, _, zs, _, ps) => naM xs zs ps)
theorem tensor_len {xs zs : List Int} (h : tensorOk xs zs = true) : xs.length ≤ 3 ∧ 1 ≤ zs.length ∧ zs.length ≤ 64 := by
  obtain ⟨h1, h2, h3⟩ := (tensorOk_iff _ _).1 h
  have h4 := cnt64 h1 (Nat.le_refl _)
  exact ⟨((shapeOk_iff _).1 h1).1, by omega, by omega⟩
theorem tensor_or (xs zs : List Int) : (tensorOk xs zs = true ∧ xs.length ≤ 3 ∧ 1 ≤ zs.length ∧ zs.length ≤ 64) ∨ tensorOk xs zs = false := by
  cases h : tensorOk xs zs
  · exact .inr rfl
  · exact .inl ⟨rfl, tensor_len h⟩
abbrev nl (v : Nat) : Row := ⟨v, 3, 1, []⟩
abbrev li (v : Nat) (zs : List Int) : Row := ⟨v, 3, 1, zs.map (.int .i64)⟩
abbrev bt (v : Nat) (cells : List AV) : Row := ⟨v, 40, 2, cells⟩
abbrev TM := List Int × List Int × Bool
def noT : TM := ([], [], false)
def negM (xs zs : List Int) : TM := if tensorOk xs zs = true then (xs, zs.map (fun z => -z), true) else noT
theorem neg_t {xs zs : List Int} (h : tensorOk xs zs = true) : negM xs zs = (xs, zs.map (fun z => -z), true) := if_pos h
theorem neg_f {xs zs : List Int} (h : tensorOk xs zs = false) : negM xs zs = noT := if_neg (by rw [h]; exact Bool.false_ne_true)
theorem getD_map {zs : List Int} {f : Int → Int} {j : Nat} (h : j < zs.length) : (zs.map f).getD j 0 = f (zs.getD j 0) := by
  simp [List.getD, List.getElem?_map, List.getElem?_eq_getElem h]
theorem getD_snoc {ws : List Int} {k j : Nat} {z : Int} (hl : ws.length = k) (hj : j < k + 1) : (ws ++ [z]).getD j 0 = if j = k then z else ws.getD j 0 := by
  subst hl
  by_cases e : j = ws.length
  · subst e; simp [List.getD]
  · have : j < ws.length := by omega
    rw [if_neg e]
    simp [List.getD, List.getElem?_append_left this]
def sNegOf : CSpec := fnTB (ι := Nat × List Int × Nat × List Int) 3 (fun | (c, xs, d, zs) => [.agg [.sl c xs.length (xs.map (.int .i64)), .sl d zs.length (zs.map (.int .i64))]]) (fun _ => True) (fun | (_, xs, _, zs) => negM xs zs)
def ngP (zs : List Int) : Prop := zs.length ≤ 1048576 ∧ ∀ j, j < zs.length → -1000000000000 ≤ zs.getD j 0 ∧ zs.getD j 0 ≤ 1000000000000
def sNegN : CSpec := fnL (ι := Nat × List Int) 3 (fun | (c, zs) => [.sl c zs.length (zs.map (.int .i64))]) (fun | (_, zs) => ngP zs) (fun | (_, zs) => zs.map (fun z => -z))
set_option maxRecDepth 10000 in
theorem negNums_sound : Sound Try.prog 91 sNegN := by
  refine sound_of Try.func91 rfl (enters_of Try.func91 (by kernel_rfl) (by kernel_rfl)) ?_
  rintro ⟨c, zs⟩ hpre
  obtain ⟨hz, hnum⟩ : ngP zs := hpre
  have hmax : maxLen = 9223372036854775807 := rfl
  conv => whnf
  repeat' (first
    | (refine fun (_ : _ ≤ maxLen) => ?_; conv => whnf)
    | (refine And.intro (And.intro (Int.le_refl _) (And.intro (by kernel_rfl) (And.intro rfl (by kernel_rfl)))) (And.intro (And.intro (by omega) (And.intro (bytes_le (b := 8) rfl (by omega)) (by omega))) ?_); conv => whnf)
    | (refine append_same ?_; conv => whnf))
  refine loop_u (ι := Nat × List Int) [false, false, false, true, false, false, false, false, false, true, true, true, false, false, false, false, false, false, false, false, false, false, false] (fun | (k, _) => [(11, .int .i64 k)]) (fun | (_, ws) => [(1, ws.map (.int .i64))]) (fun x => x.1 ≤ zs.length ∧ x.2.length = zs.length ∧ ∀ j, j < x.1 → x.2.getD j 0 = -(zs.getD j 0)) (fun x => zs.length - x.1) ((0, List.replicate zs.length 0)) ⟨Nat.zero_le _, by simp, fun j hj => absurd hj (Nat.not_lt_zero _)⟩ ?_ ?_
  · conv => whnf
    repeat' (first
      | exact trivial
      | exact rfl
      | exact pureL_ints _ _
      | exact Or.inl (And.intro rfl rfl)
      | exact le_ints (rep_ints _ _)
      | refine And.intro ?_ ?_
      | exact Nat.le_of_ble_eq_true rfl)
  · rintro ⟨k, ws⟩ ⟨hk, hl, hall⟩
    have hk : k ≤ zs.length := hk
    have hl : ws.length = zs.length := hl
    have hall : ∀ j, j < k → ws.getD j 0 = -(zs.getD j 0) := hall
    conv => whnf
    repeat' (first
      | (refine get_nat (by omega) ?_; conv => whnf)
      | (refine And.intro (by omega) ?_; conv => whnf)
      | (refine append_same ?_; conv => whnf)
      | (refine And.intro rfl (And.intro rfl (And.intro (by first | omega | (rw [List.length_map]; omega)) ?_)); conv => whnf)
      | (refine set_nat ?_ (by omega); conv => whnf)
      | (refine aIf_dec (fun _ => ?_) (fun _ => ?_) <;> conv => whnf))
    · have hn := hnum k (by omega)
      have hw : IntKind.i64.wrap (0 - zs.getD k 0) = -(zs.getD k 0) := (IntWalk.i64_in _ (by omega)).trans (by omega)
      refine next_u (k + 1, ws.set k (IntKind.i64.wrap (0 - zs.getD k 0))) (show zs.length - (k + 1) < zs.length - k by omega) ⟨(show k + 1 ≤ zs.length by omega), by simpa using hl, fun j hj => ?_⟩ ?_
      · have hj : j < k + 1 := hj
        show (ws.set k (IntKind.i64.wrap (0 - zs.getD k 0))).getD j 0 = _
        rw [getD_set (by omega)]
        split
        · rename_i e; rw [e] at hw; rw [e]; exact hw
        · exact hall j (by omega)
      · conv => whnf
        repeat' (first
          | exact trivial
          | exact rfl
          | exact pureL_ints _ _
          | exact Or.inl (And.intro rfl rfl)
          | exact le_ints rfl
          | refine And.intro ?_ ?_
          | exact Nat.le_of_ble_eq_true rfl
          | exact int_eq (by rw [IntWalk.i64_in _ (by omega)] <;> omega))
    · have e : ws = zs.map (fun z => -z) := getD_ext (by simpa using hl) fun j hj => by
        rw [List.length_map] at hj
        rw [hall j (by omega), getD_map hj]
      subst e
      exact retL rfl rfl rfl (by simp)
theorem negNums_call {c : Nat} {zs : List Int} {env : List AV} {rows : List Row} {ctr low : Nat} {k : AV → St → Prop} (hpre : ngP zs) (h : k (.ref rows.length ctr 0 (zs.map (fun z => -z)).length) ⟨env, rows ++ [⟨ctr, 3, 1, (zs.map (fun z => -z)).map (.int .i64)⟩], ctr + 1, low⟩) :
    CallB Try.prog 91 ⟨env, rows, ctr, low⟩ [.sl c zs.length (zs.map (.int .i64))] k := callL_in negNums_sound (c, zs) hpre h
set_option maxRecDepth 10000 in
theorem iNegOf_sound : Sound Try.prog 48 sNegOf := by
  refine sound_of Try.func48 rfl (enters_of Try.func48 (by kernel_rfl) (by kernel_rfl)) ?_
  rintro ⟨c, xs, d, zs⟩ -
  rcases tensor_or xs zs with ⟨ht, hx, hz⟩ | ht
  · have hnum := ((tensorOk_iff _ _).1 ht).2.2
    have hng : ngP zs := ⟨by omega, fun j hj => by have := hnum j hj; omega⟩
    conv => whnf
    repeat' (first
      | (refine plan_in (id := 3) [0, 1, 3, 4, 2, 5, 6, 7, 8] (by kernel_rfl) (by kernel_rfl) ?_; conv => whnf)
      | (refine aGet_in rfl ?_; conv => whnf)
      | (refine load_same ?_; conv => whnf)
      | (refine And.intro rfl (And.intro (List.cons_ne_nil _ _) ?_); conv => whnf)
      | (refine And.intro (Nat.le_of_ble_eq_true rfl) ?_; conv => whnf)
      | (refine callG_t ?_; conv => whnf)
      | (refine copyNums_call (by omega) ?_; conv => whnf)
      | (refine iTensorOk_call ?_; conv => whnf)
      | (refine append_same ?_; conv => whnf)
      | (refine negNums_call (by first | omega | assumption | (refine ⟨?_, ?_⟩ <;> first | assumption | omega) | (refine ⟨?_, ?_, ?_⟩ <;> first | assumption | omega)) ?_; conv => whnf)
      | (refine takeN_in ?_; conv => whnf)
      | (refine And.intro (pureL_ints _ _) ?_; conv => whnf)
      | (refine set_force ?_; conv => whnf)
      | (refine And.intro (by kernel_rfl) ?_; conv => whnf)
      | (refine aIf_tt (by assumption) ?_; conv => whnf)
      | refine aIf_not ?_)
    refine retTB (hM := neg_t ht) ?_ ?_ ?_ ?_ ?_
    all_goals (first | exact rfl | decide | (simp; done))
  · conv => whnf
    repeat' (first
      | (refine plan_in (id := 3) [0, 1, 3, 4, 2, 5, 6, 7, 8] (by kernel_rfl) (by kernel_rfl) ?_; conv => whnf)
      | (refine load_same ?_; conv => whnf)
      | (refine And.intro rfl (And.intro (List.cons_ne_nil _ _) ?_); conv => whnf)
      | (refine And.intro (Nat.le_of_ble_eq_true rfl) ?_; conv => whnf)
      | (refine callG_t ?_; conv => whnf)
      | (refine iTensorOk_call ?_; conv => whnf)
      | (refine append_same ?_; conv => whnf)
      | (refine takeN_in ?_; conv => whnf)
      | (refine And.intro (pureL_ints _ _) ?_; conv => whnf)
      | (refine set_force ?_; conv => whnf)
      | (refine And.intro (by kernel_rfl) ?_; conv => whnf)
      | (refine aIf_ff (by assumption) ?_; conv => whnf)
      | refine aIf_not ?_)
    refine retTB (hM := neg_f ht) ?_ ?_ ?_ ?_ ?_
    all_goals (first | exact rfl | decide | (simp; done))
set_option maxRecDepth 10000 in
theorem sNegOf_sound : Sound Try.prog 47 sNegOf := by
  refine sound_of Try.func47 rfl (enters_of Try.func47 (by kernel_rfl) (by kernel_rfl)) ?_
  rintro ⟨c, xs, d, zs⟩ -
  rcases tensor_or xs zs with ⟨ht, hx, hz⟩ | ht
  · have hnum := ((tensorOk_iff _ _).1 ht).2.2
    have hmax : maxLen = 9223372036854775807 := rfl
    conv => whnf
    repeat' (first
      | (refine plan_in (id := 7) [0, 1, 2, 3, 4, 5, 6, 7, 8, 9, 10, 11] (by kernel_rfl) (by kernel_rfl) ?_; conv => whnf)
      | (refine aGet_in rfl ?_; conv => whnf)
      | (refine load_same ?_; conv => whnf)
      | (refine And.intro rfl (And.intro (List.cons_ne_nil _ _) ?_); conv => whnf)
      | (refine And.intro (Nat.le_of_ble_eq_true rfl) ?_; conv => whnf)
      | (refine callG_t ?_; conv => whnf)
      | (refine l2Nums_call (by omega) ?_; conv => whnf)
      | (refine sTensorOk_call ?_; conv => whnf)
      | (refine append_same ?_; conv => whnf)
      | (refine takeN_in ?_; conv => whnf)
      | (refine And.intro (pureL_ints _ _) ?_; conv => whnf)
      | (refine set_force ?_; conv => whnf)
      | (refine And.intro (by kernel_rfl) ?_; conv => whnf)
      | (refine aIf_tt (by assumption) ?_; conv => whnf)
      | refine aIf_not ?_)
    refine loop_in (ι := Nat × List Int) (fun | (k, ws) => ⟨[.un, .ptr 0 1 0, .ptr 3 4 0, .bool false, .ptr 8 10 0, .int .i64 k, .un, .un, .un, .un, .un, .un, .un, .un, .un, .un, .un, .un, .un, .un, .un, .un, .un, .un, .un, .un, .un, .un, .un, .un, .un, .un, .un], [bt 1 [.sl c xs.length (xs.map (.int .i64)), .sl d zs.length (zs.map (.int .i64))], nl 2, nl 3, bt 4 [.ref 1 2 0 0, .ref 2 3 0 0], li 6 xs, li 7 ws, nl 8, nl 9, bt 10 [.ref 4 6 0 xs.length, .ref 5 7 0 ws.length]], 11, 0⟩)
      (fun x => x.1 ≤ zs.length ∧ x.2.length = x.1 ∧ ∀ j, j < x.1 → x.2.getD j 0 = -(zs.getD j 0)) (fun x => zs.length - x.1) (0, []) ⟨Nat.zero_le _, rfl, fun j hj => absurd hj (Nat.not_lt_zero _)⟩ ?_ ?_
    · repeat' (first
        | exact trivial
        | exact rfl
        | exact Or.inl (And.intro rfl rfl)
        | exact le_ints rfl
        | exact Or.inl (And.intro (pureL_pair _ _ _ _ _ _) rfl)
        | refine Or.inr ?_
        | refine And.intro ?_ ?_
        | exact Nat.le_of_ble_eq_true rfl)
    · rintro ⟨k, ws⟩ ⟨hk, hl, hall⟩
      have hk : k ≤ zs.length := hk
      have hl : ws.length = k := hl
      have hall : ∀ j, j < k → ws.getD j 0 = -(zs.getD j 0) := hall
      conv => whnf
      repeat' (first
        | (refine plan_in (id := 7) [0, 1, 2, 3, 4, 5, 6, 7, 8, 9, 10, 11] (by kernel_rfl) (by kernel_rfl) ?_; conv => whnf)
        | (refine fun (_ : _ ≤ maxLen) => ?_; conv => whnf)
        | (refine get_nat (by omega) ?_; conv => whnf)
        | (refine aGet_in rfl ?_; conv => whnf)
        | (refine And.intro (by omega) ?_; conv => whnf)
        | (refine load_same ?_; conv => whnf)
        | (refine And.intro (Nat.le_of_ble_eq_true rfl) ?_; conv => whnf)
        | (refine append_same ?_; conv => whnf)
        | (refine takeN_in ?_; conv => whnf)
        | (refine append_int rfl rfl (by first | rfl | (simp only [List.length_take, turned_length]; omega)) (by omega) (Nat.le_of_ble_eq_true rfl) ?_; conv => whnf)
        | (refine set_force ?_; conv => whnf)
        | (refine And.intro (And.intro (by kernel_rfl) (And.intro rfl (Nat.le_of_ble_eq_true rfl))) ?_; conv => whnf)
        | (refine And.intro (by kernel_rfl) ?_; conv => whnf)
        | (refine aIf_dec (fun _ => ?_) (fun _ => ?_) <;> conv => whnf))
      · have hn := hnum k (by omega)
        have hw : IntKind.i64.wrap (0 - zs.getD k 0) = -(zs.getD k 0) := (IntWalk.i64_in _ (by omega)).trans (by omega)
        refine next_in (k + 1, ws ++ [IntKind.i64.wrap (0 - zs.getD k 0)]) (show zs.length - (k + 1) < zs.length - k by omega) ⟨(show k + 1 ≤ zs.length by omega), by simp [hl], fun j hj => ?_⟩ ?_
        · have hj : j < k + 1 := hj
          show (ws ++ [IntKind.i64.wrap (0 - zs.getD k 0)]).getD j 0 = _
          rw [getD_snoc hl hj]
          split
          · rename_i e; rw [e]; exact hw
          · exact hall j (by omega)
        · repeat' (first
            | exact trivial
            | exact rfl
            | exact Or.inl (And.intro rfl rfl)
            | exact le_ints rfl
            | exact Or.inl (And.intro (pureL_pair _ _ _ _ _ _) rfl)
            | refine Or.inr ?_
            | refine And.intro ?_ ?_
            | exact Nat.le_of_ble_eq_true rfl
            | exact List.length_append
            | exact int_eq (by rw [IntWalk.i64_in _ (by omega)] <;> omega))
      · have e : ws = zs.map (fun z => -z) := getD_ext (by rw [List.length_map]; omega) fun j hj => by
          rw [List.length_map] at hj
          rw [hall j (by omega), getD_map hj]
        subst e
        refine retTB (hM := neg_t ht) ?_ ?_ ?_ ?_ ?_
        all_goals (first | exact rfl | decide | (simp; done))
  · conv => whnf
    repeat' (first
      | (refine plan_in (id := 7) [0, 1, 2, 3, 4, 5, 6, 7, 8, 9, 10, 11] (by kernel_rfl) (by kernel_rfl) ?_; conv => whnf)
      | (refine load_same ?_; conv => whnf)
      | (refine And.intro rfl (And.intro (List.cons_ne_nil _ _) ?_); conv => whnf)
      | (refine And.intro (Nat.le_of_ble_eq_true rfl) ?_; conv => whnf)
      | (refine callG_t ?_; conv => whnf)
      | (refine sTensorOk_call ?_; conv => whnf)
      | (refine append_same ?_; conv => whnf)
      | (refine takeN_in ?_; conv => whnf)
      | (refine And.intro (pureL_ints _ _) ?_; conv => whnf)
      | (refine set_force ?_; conv => whnf)
      | (refine And.intro (by kernel_rfl) ?_; conv => whnf)
      | (refine aIf_ff (by assumption) ?_; conv => whnf)
      | refine aIf_not ?_)
    refine retTB (hM := neg_f ht) ?_ ?_ ?_ ?_ ?_
    all_goals (first | exact rfl | decide | (simp; done))
theorem neg_len (xs zs : List Int) : (negM xs zs).1.length ≤ 3 ∧ (negM xs zs).2.1.length ≤ 64 := by
  rcases tensor_or xs zs with ⟨ht, hx, hz⟩ | ht
  · rw [neg_t ht]; exact ⟨hx, by simpa using hz.2⟩
  · rw [neg_f ht]; exact ⟨Nat.zero_le _, Nat.zero_le _⟩
theorem sNegOf_call {c d : Nat} {xs zs : List Int} {env : List AV} {rows : List Row} {ctr low : Nat} {k : AV → St → Prop} (hk : k (.tup [.agg [.ref rows.length ctr 0 (negM xs zs).1.length, .ref (rows.length + 1) ctr 0 (negM xs zs).2.1.length], .bool (negM xs zs).2.2]) ⟨env, rows ++ [⟨ctr, 3, 1, (negM xs zs).1.map (.int .i64)⟩, ⟨ctr, 3, 1, (negM xs zs).2.1.map (.int .i64)⟩], ctr + 1, low⟩) :
    CallB Try.prog 47 ⟨env, rows, ctr, low⟩ [.agg [.sl c xs.length (xs.map (.int .i64)), .sl d zs.length (zs.map (.int .i64))]] k := callTB_in sNegOf_sound (c, xs, d, zs) trivial hk
theorem iNegOf_call {c d : Nat} {xs zs : List Int} {env : List AV} {rows : List Row} {ctr low : Nat} {k : AV → St → Prop} (hk : k (.tup [.agg [.ref rows.length ctr 0 (negM xs zs).1.length, .ref (rows.length + 1) ctr 0 (negM xs zs).2.1.length], .bool (negM xs zs).2.2]) ⟨env, rows ++ [⟨ctr, 3, 1, (negM xs zs).1.map (.int .i64)⟩, ⟨ctr, 3, 1, (negM xs zs).2.1.map (.int .i64)⟩], ctr + 1, low⟩) :
    CallB Try.prog 48 ⟨env, rows, ctr, low⟩ [.agg [.sl c xs.length (xs.map (.int .i64)), .sl d zs.length (zs.map (.int .i64))]] k := callTB_in iNegOf_sound (c, xs, d, zs) trivial hk
end Go.Proofs.Ytjmdhfjemaoebaa

/- Facts of the program that every law's claim wants. -/
namespace Go.Proofs.Ytjmdhfjemaoebaa
set_option maxRecDepth 20000
open Go.RowKit Go.Am Go.WideShapes Go.ChangeShapes

theorem own_ : ownKnob Try.prog.godebug = none := by kernel_rfl
theorem laid_ : laidOutB Try.prog = true := by kernel_rfl
theorem uInts : Try.prog.underlying 34 = some (.slice 3) := by kernel_rfl
theorem uByte : Try.prog.underlying 5 = some (.int .u8) := by kernel_rfl
theorem uInt : Try.prog.underlying 3 = some (.int .i64) := by kernel_rfl

end Go.Proofs.Ytjmdhfjemaoebaa

/- Facts of the program about tensors. -/
namespace Go.Proofs.Ytjmdhfjemaoebaa
set_option maxRecDepth 20000
open Go.RowKit Go.Am Go.WideShapes Go.ChangeShapes
theorem argT {av : AV} (h : ArgR Try.prog 36 av) : ∃ xs zs : List Int, av = .agg [.sl 1 xs.length (xs.map (.int .i64)), .sl 1 zs.length (zs.map (.int .i64))] := by
  obtain ⟨xs, zs, e, _, _⟩ := argRPair (t1 := 34) (e := 3) (by kernel_rfl) uInts uInt (by kernel_rfl) (by kernel_rfl) h
  exact ⟨xs, zs, e⟩
theorem argL {av : AV} (h : ArgR Try.prog 34 av) : ∃ zs : List Int, av = .sl 1 zs.length (zs.map (.int .i64)) := by
  obtain ⟨zs, e, _⟩ := argRInts uInts uInt h
  exact ⟨zs, e⟩
theorem argI {av : AV} (h : ArgR Try.prog 3 av) : ∃ n : Int, av = .int .i64 n ∧ (Lit.int .i64 n).wf = true := argRInt uInt h
theorem avs4 {avs : List AV} {p : Nat → AV → Prop} (hl : avs.length = 4) (h : ∀ j av, avs[j]? = some av → p j av) : ∃ a b c d, avs = [a, b, c, d] ∧ p 0 a ∧ p 1 b ∧ p 2 c ∧ p 3 d := by
  match avs, hl with
  | [a, b, c, d], _ => exact ⟨a, b, c, d, rfl, h 0 a rfl, h 1 b rfl, h 2 c rfl, h 3 d rfl⟩
end Go.Proofs.Ytjmdhfjemaoebaa
