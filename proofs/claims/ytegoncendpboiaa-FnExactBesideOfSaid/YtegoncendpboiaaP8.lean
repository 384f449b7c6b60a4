/- TurnOk. -/
import Derived.Test.YtegoncendpboiaaP1
namespace Go.Proofs.Ytegoncendpboiaa
set_option maxRecDepth 20000
open Go.RowKit Go.Am
attribute [local irreducible] aPlan aGet aIf aLoop aCall RetB NextB CallB CallG aCut aSet

/-- The axes that are seen among the first k; none, when one is no axis or comes twice. -/
def turnTo (zs : List Int) (n : Int) : Nat → Option (List Bool)
  | 0 => some (List.replicate n.toNat false)
  | k + 1 =>
    match turnTo zs n k with
    | some bs => if 0 ≤ zs.getD k 0 ∧ zs.getD k 0 < n ∧ bs.getD (zs.getD k 0).toNat false = false then some (bs.set (zs.getD k 0).toNat true) else none
    | none => none
theorem turnTo_next {zs : List Int} {n : Int} {k : Nat} {bs : List Bool} (h : turnTo zs n k = some bs) (h' : 0 ≤ zs.getD k 0 ∧ zs.getD k 0 < n ∧ bs.getD (zs.getD k 0).toNat false = false) : turnTo zs n (k + 1) = some (bs.set (zs.getD k 0).toNat true) := by
  unfold turnTo; rw [h]; simp only; rw [if_pos h']
theorem turnTo_f {zs : List Int} {n : Int} {k : Nat} {bs : List Bool} (h : turnTo zs n k = some bs) (h' : ¬ (0 ≤ zs.getD k 0 ∧ zs.getD k 0 < n ∧ bs.getD (zs.getD k 0).toNat false = false)) : turnTo zs n (k + 1) = none := by
  unfold turnTo; rw [h]; simp only; rw [if_neg h']
theorem turnTo_none {zs : List Int} {n : Int} {k : Nat} (h : turnTo zs n k = none) : ∀ d, turnTo zs n (k + d) = none
  | 0 => h
  | d + 1 => by
    have := turnTo_none h d
    show turnTo zs n (k + d + 1) = none
    unfold turnTo; rw [this]
def turnOk (zs : List Int) (n : Int) : Bool := decide (n ≤ 3 ∧ (zs.length : Int) = n) && (turnTo zs n zs.length).isSome
theorem turnOk_f {zs : List Int} {n : Int} (h : ¬ (n ≤ 3 ∧ (zs.length : Int) = n)) : turnOk zs n = false := by unfold turnOk; simp [h]
theorem turnOk_fk {zs : List Int} {n : Int} {k : Nat} {bs : List Bool} (hk : k < zs.length) (h : turnTo zs n k = some bs) (h' : ¬ (0 ≤ zs.getD k 0 ∧ zs.getD k 0 < n ∧ bs.getD (zs.getD k 0).toNat false = false)) : turnOk zs n = false := by
  have := turnTo_none (turnTo_f h h') (zs.length - (k + 1))
  rw [show k + 1 + (zs.length - (k + 1)) = zs.length by omega] at this
  unfold turnOk; simp [this]
theorem turnOk_t {zs : List Int} {n : Int} {bs : List Bool} (h : n ≤ 3 ∧ (zs.length : Int) = n) (h' : turnTo zs n zs.length = some bs) : turnOk zs n = true := by unfold turnOk; simp [h, h']

def sTurnOk : CSpec := fnS (ι := Nat × List Int × Int) (fun | (c, zs, n) => [.sl c zs.length (zs.map (.int .i64)), .int .i64 n]) (fun _ => True) (fun | (_, zs, n) => .bool (turnOk zs n))

set_option maxRecDepth 10000 in
theorem iTurnOk_sound : Sound Try.prog 94 sTurnOk := by
  refine sound_of Try.func94 rfl (enters_of Try.func94 (by kernel_rfl) (by kernel_rfl)) ?_
  rintro ⟨c, zs, n⟩ -
  conv => whnf
  repeat' (first
    | (refine aIf_t ?_; conv => whnf)
    | (refine aIf_f ?_; conv => whnf)
    | (refine fun (_ : _ ≤ maxLen) => ?_; conv => whnf)
    | (refine get_nat0 (by omega) ?_; conv => whnf)
    | (refine get_int0 (by omega) ?_; conv => whnf)
    | (refine get_nat (by omega) ?_; conv => whnf)
    | (refine get_int (by omega) ?_; conv => whnf)
    | (refine aGet_in rfl ?_; conv => whnf)
    | (refine And.intro (And.intro (Int.le_refl _) (And.intro (by kernel_rfl) (And.intro rfl (by kernel_rfl)))) (And.intro (And.intro (by omega) (And.intro (bytes_le (b := 8) rfl (by omega)) (by omega))) ?_); conv => whnf)
    | (refine And.intro (by omega) ?_; conv => whnf)
    | (refine load_same ?_; conv => whnf)
    | (refine And.intro (by rw [List.length_map]; omega) ?_; conv => whnf)
    | (refine And.intro rfl (And.intro (List.cons_ne_nil _ _) ?_); conv => whnf)
    | (refine And.intro (Nat.le_of_ble_eq_true rfl) ?_; conv => whnf)
    | (refine callG_t ?_; conv => whnf)
    | (refine And.intro (And.intro (Int.le_refl _) (And.intro (by kernel_rfl) (And.intro rfl (by kernel_rfl)))) (And.intro (And.intro (by omega) (And.intro (bytes_le (b := 24) rfl (by omega)) (by omega))) ?_); conv => whnf)
    | (refine And.intro (And.intro (Int.le_refl _) (And.intro (by kernel_rfl) (And.intro rfl (by kernel_rfl)))) (And.intro (And.intro (by omega) (And.intro (bytes_le (b := 48) rfl (by omega)) (by omega))) ?_); conv => whnf)
    | (refine takeN_in ?_; conv => whnf)
    | (refine And.intro (pureL_ints _ _) ?_; conv => whnf)
    | (refine cut_ints ?_; conv => whnf)
    | (refine cut_all rfl (scalL_ints _ _) ?_; conv => whnf)
    | (refine cut_all (by simp only [List.length_map]; omega) (scalL_ints _ _) ?_; conv => whnf)
    | (refine And.intro rfl (And.intro rfl (And.intro (by first | omega | (rw [List.length_map]; omega)) ?_)); conv => whnf)
    | (refine set_nat ?_ (by omega); conv => whnf)
    | (refine set_int ?_ (by omega); conv => whnf)
    | (refine set_bool ?_ (by omega); conv => whnf)
    | (refine set_force ?_; conv => whnf)
    | (refine get_bool0 (by omega) ?_; conv => whnf)
    | (refine And.intro (And.intro (Int.le_refl _) (And.intro (by kernel_rfl) (And.intro rfl (by kernel_rfl)))) (And.intro (And.intro (by omega) (And.intro (bytes_le (b := 1) rfl (by omega)) (by omega))) ?_); conv => whnf)
    | (refine And.intro (And.intro (by kernel_rfl) (And.intro rfl (Nat.le_of_ble_eq_true rfl))) ?_; conv => whnf)
    | (refine And.intro (And.intro (by kernel_rfl) (by kernel_rfl)) ?_; conv => whnf)
    | (refine And.intro (by kernel_rfl) ?_; conv => whnf)
    | (refine aIf_tt (by assumption) ?_; conv => whnf)
    | (refine aIf_ff (by assumption) ?_; conv => whnf)
    | refine aIf_eqt ?_
    | refine aIf_eqf ?_
    | refine aIf_not ?_
    | (refine aIf_bself ?_; conv => whnf)
    | (refine aIf_beself ?_; conv => whnf)
    | (refine aIf_iself ?_; conv => whnf)
    | (refine aIf_decself ?_; conv => whnf)
    | (refine aIf_dec (fun _ => ?_) (fun _ => ?_) <;> conv => whnf)
    | (refine aIf_beq (fun _ => ?_) (fun _ => ?_) <;> conv => whnf)
    | (refine aIf_bne (fun _ => ?_) (fun _ => ?_) <;> conv => whnf)
    | (refine aIf_bbne (fun _ => ?_) (fun _ => ?_) <;> conv => whnf)
    | (refine aIf_bbeq (fun _ => ?_) (fun _ => ?_) <;> conv => whnf)
    | (refine aIf_in (fun _ => ?_) (fun _ => ?_) <;> conv => whnf))
  · exact retS rfl (congrArg AV.bool (turnOk_f (by omega)).symm)
  · rename_i h3 _ hn _
    have hn' : n ≤ 3 ∧ (zs.length : Int) = n := ⟨by omega, hn⟩
    refine loop_in (ι := Nat × List Bool) (fun | (k, bs) => ⟨[.sl c zs.length (zs.map (.int .i64)), .int .i64 n, .un, .un, .bool false, .ref 0 1 0 n.toNat, .un, .un, .un, .un, .un, .un, .un, .un, .un, .un, .un, .un, .sl c zs.length (zs.map (.int .i64)), .int .i64 zs.length, .int .i64 k, .un, .un, .un, .un, .un, .un, .un, .un, .un, .un, .un, .un, .un, .un, .un, .un, .un, .un, .un, .un], [⟨1, 4, 1, bs.map .bool⟩], 2, 0⟩)
      (fun x => x.1 ≤ zs.length ∧ x.2.length = n.toNat ∧ turnTo zs n x.1 = some x.2) (fun x => zs.length - x.1) (0, List.replicate n.toNat false) ⟨Nat.zero_le _, by simp, rfl⟩ ?_ ?_
    · repeat' (first
        | exact trivial
        | exact rfl
        | exact pureL_ints _ _
        | exact pureL_bools _
        | exact Or.inl (And.intro rfl rfl)
        | exact le_ints rfl
        | exact le_ints (rep_ints _ _)
        | exact le_bools rfl
        | exact le_bools (rep_bools _)
        | refine le_ints ?_
        | refine Or.inr ?_
        | refine And.intro ?_ ?_
        | exact Nat.le_of_ble_eq_true rfl
        | exact Nat.zero_le _
        | exact int_eq (by assumption)
        | exact int_eq (by omega)
        | exact int_eq (Int.add_zero _).symm
        | exact List.length_append
        | exact int_eq (by rw [IntWalk.i64_in _ (by omega)] <;> omega))
    · rintro ⟨k, bs⟩ ⟨hk, hl, ht⟩
      have hk : k ≤ zs.length := hk
      have hl : bs.length = n.toNat := hl
      have ht : turnTo zs n k = some bs := ht
      conv => whnf
      repeat' (first
        | (refine aIf_t ?_; conv => whnf)
        | (refine aIf_f ?_; conv => whnf)
        | (refine fun (_ : _ ≤ maxLen) => ?_; conv => whnf)
        | (refine get_nat0 (by omega) ?_; conv => whnf)
        | (refine get_int0 (by omega) ?_; conv => whnf)
        | (refine get_nat (by omega) ?_; conv => whnf)
        | (refine get_int (by omega) ?_; conv => whnf)
        | (refine aGet_in rfl ?_; conv => whnf)
        | (refine And.intro (And.intro (Int.le_refl _) (And.intro (by kernel_rfl) (And.intro rfl (by kernel_rfl)))) (And.intro (And.intro (by omega) (And.intro (bytes_le (b := 8) rfl (by omega)) (by omega))) ?_); conv => whnf)
        | (refine And.intro (by omega) ?_; conv => whnf)
        | (refine load_same ?_; conv => whnf)
        | (refine And.intro (by rw [List.length_map]; omega) ?_; conv => whnf)
        | (refine And.intro rfl (And.intro (List.cons_ne_nil _ _) ?_); conv => whnf)
        | (refine And.intro (Nat.le_of_ble_eq_true rfl) ?_; conv => whnf)
        | (refine callG_t ?_; conv => whnf)
        | (refine And.intro (And.intro (Int.le_refl _) (And.intro (by kernel_rfl) (And.intro rfl (by kernel_rfl)))) (And.intro (And.intro (by omega) (And.intro (bytes_le (b := 24) rfl (by omega)) (by omega))) ?_); conv => whnf)
        | (refine And.intro (And.intro (Int.le_refl _) (And.intro (by kernel_rfl) (And.intro rfl (by kernel_rfl)))) (And.intro (And.intro (by omega) (And.intro (bytes_le (b := 48) rfl (by omega)) (by omega))) ?_); conv => whnf)
        | (refine takeN_in ?_; conv => whnf)
        | (refine And.intro (pureL_ints _ _) ?_; conv => whnf)
        | (refine cut_ints ?_; conv => whnf)
        | (refine cut_all rfl (scalL_ints _ _) ?_; conv => whnf)
        | (refine cut_all (by simp only [List.length_map]; omega) (scalL_ints _ _) ?_; conv => whnf)
        | (refine And.intro rfl (And.intro rfl (And.intro (by first | omega | (rw [List.length_map]; omega)) ?_)); conv => whnf)
        | (refine set_nat ?_ (by omega); conv => whnf)
        | (refine set_int ?_ (by omega); conv => whnf)
        | (refine set_bool ?_ (by omega); conv => whnf)
        | (refine set_force ?_; conv => whnf)
        | (refine get_bool0 (by omega) ?_; conv => whnf)
        | (refine And.intro (And.intro (Int.le_refl _) (And.intro (by kernel_rfl) (And.intro rfl (by kernel_rfl)))) (And.intro (And.intro (by omega) (And.intro (bytes_le (b := 1) rfl (by omega)) (by omega))) ?_); conv => whnf)
        | (refine And.intro (And.intro (by kernel_rfl) (And.intro rfl (Nat.le_of_ble_eq_true rfl))) ?_; conv => whnf)
        | (refine And.intro (And.intro (by kernel_rfl) (by kernel_rfl)) ?_; conv => whnf)
        | (refine And.intro (by kernel_rfl) ?_; conv => whnf)
        | (refine aIf_tt (by assumption) ?_; conv => whnf)
        | (refine aIf_ff (by assumption) ?_; conv => whnf)
        | refine aIf_eqt ?_
        | refine aIf_eqf ?_
        | refine aIf_not ?_
        | (refine aIf_bself ?_; conv => whnf)
        | (refine aIf_beself ?_; conv => whnf)
        | (refine aIf_iself ?_; conv => whnf)
        | (refine aIf_decself ?_; conv => whnf)
        | (refine aIf_dec (fun _ => ?_) (fun _ => ?_) <;> conv => whnf)
        | (refine aIf_beq (fun _ => ?_) (fun _ => ?_) <;> conv => whnf)
        | (refine aIf_bne (fun _ => ?_) (fun _ => ?_) <;> conv => whnf)
        | (refine aIf_bbne (fun _ => ?_) (fun _ => ?_) <;> conv => whnf)
        | (refine aIf_bbeq (fun _ => ?_) (fun _ => ?_) <;> conv => whnf)
        | (refine aIf_in (fun _ => ?_) (fun _ => ?_) <;> conv => whnf))
      · exact retS rfl (congrArg AV.bool (turnOk_fk (k := k) (by omega) ht (by omega)).symm)
      · exact retS rfl (congrArg AV.bool (turnOk_fk (k := k) (by omega) ht (by omega)).symm)
      · rename_i hb
        exact retS rfl (congrArg AV.bool (turnOk_fk (k := k) (by omega) ht (by rw [hb]; simp)).symm)
      · rename_i hb
        refine next_in (k + 1, bs.set (zs.getD k 0).toNat true) (show zs.length - (k + 1) < zs.length - k by omega) ⟨(show k + 1 ≤ zs.length by omega), by simpa using hl, turnTo_next ht ⟨by omega, by omega, hb⟩⟩ ?_
        have hmax : maxLen = 9223372036854775807 := rfl
        repeat' (first
          | exact trivial
          | exact rfl
          | exact pureL_ints _ _
          | exact pureL_bools _
          | exact Or.inl (And.intro rfl rfl)
          | exact le_ints rfl
          | exact le_ints (rep_ints _ _)
          | exact le_bools rfl
          | exact le_bools (rep_bools _)
          | refine le_ints ?_
          | refine Or.inr ?_
          | refine And.intro ?_ ?_
          | exact Nat.le_of_ble_eq_true rfl
          | exact Nat.zero_le _
          | exact int_eq (by assumption)
          | exact int_eq (by omega)
          | exact int_eq (Int.add_zero _).symm
          | exact List.length_append
          | exact int_eq (by rw [IntWalk.i64_in _ (by omega)] <;> omega))
      · have e : k = zs.length := by omega
        subst e
        exact retS rfl (congrArg AV.bool (turnOk_t hn' ht).symm)
  · exact retS rfl (congrArg AV.bool (turnOk_f (by omega)).symm)
theorem iTurnOk_call {c : Nat} {zs : List Int} {n : Int} {env : List AV} {rows : List Row} {ctr low : Nat} {k : AV → St → Prop} (h : k (.bool (turnOk zs n)) ⟨env, rows, ctr + 1, low⟩) :
    CallB Try.prog 94 ⟨env, rows, ctr, low⟩ [.sl c zs.length (zs.map (.int .i64)), .int .i64 n] k := callS_in iTurnOk_sound (c, zs, n) trivial rfl h

set_option maxRecDepth 10000 in
theorem sTurnOk_sound : Sound Try.prog 92 sTurnOk := by
  refine sound_of Try.func92 rfl (enters_of Try.func92 (by kernel_rfl) (by kernel_rfl)) ?_
  rintro ⟨c, zs, n⟩ -
  conv => whnf
  repeat' (first
    | (refine aIf_t ?_; conv => whnf)
    | (refine aIf_f ?_; conv => whnf)
    | (refine fun (_ : _ ≤ maxLen) => ?_; conv => whnf)
    | (refine get_nat0 (by omega) ?_; conv => whnf)
    | (refine get_int0 (by omega) ?_; conv => whnf)
    | (refine get_nat (by omega) ?_; conv => whnf)
    | (refine get_int (by omega) ?_; conv => whnf)
    | (refine aGet_in rfl ?_; conv => whnf)
    | (refine And.intro (And.intro (Int.le_refl _) (And.intro (by kernel_rfl) (And.intro rfl (by kernel_rfl)))) (And.intro (And.intro (by omega) (And.intro (bytes_le (b := 8) rfl (by omega)) (by omega))) ?_); conv => whnf)
    | (refine And.intro (by omega) ?_; conv => whnf)
    | (refine load_same ?_; conv => whnf)
    | (refine And.intro (by rw [List.length_map]; omega) ?_; conv => whnf)
    | (refine And.intro rfl (And.intro (List.cons_ne_nil _ _) ?_); conv => whnf)
    | (refine And.intro (Nat.le_of_ble_eq_true rfl) ?_; conv => whnf)
    | (refine callG_t ?_; conv => whnf)
    | (refine And.intro (And.intro (Int.le_refl _) (And.intro (by kernel_rfl) (And.intro rfl (by kernel_rfl)))) (And.intro (And.intro (by omega) (And.intro (bytes_le (b := 24) rfl (by omega)) (by omega))) ?_); conv => whnf)
    | (refine And.intro (And.intro (Int.le_refl _) (And.intro (by kernel_rfl) (And.intro rfl (by kernel_rfl)))) (And.intro (And.intro (by omega) (And.intro (bytes_le (b := 48) rfl (by omega)) (by omega))) ?_); conv => whnf)
    | (refine takeN_in ?_; conv => whnf)
    | (refine And.intro (pureL_ints _ _) ?_; conv => whnf)
    | (refine cut_ints ?_; conv => whnf)
    | (refine cut_all rfl (scalL_ints _ _) ?_; conv => whnf)
    | (refine cut_all (by simp only [List.length_map]; omega) (scalL_ints _ _) ?_; conv => whnf)
    | (refine in_call ?_; conv => whnf)
    | (refine And.intro rfl (And.intro rfl (And.intro (by first | omega | (rw [List.length_map]; omega)) ?_)); conv => whnf)
    | (refine set_nat ?_ (by omega); conv => whnf)
    | (refine set_int ?_ (by omega); conv => whnf)
    | (refine set_bool ?_ (by omega); conv => whnf)
    | (refine set_force ?_; conv => whnf)
    | (refine get_bool0 (by omega) ?_; conv => whnf)
    | (refine And.intro (And.intro (Int.le_refl _) (And.intro (by kernel_rfl) (And.intro rfl (by kernel_rfl)))) (And.intro (And.intro (by omega) (And.intro (bytes_le (b := 1) rfl (by omega)) (by omega))) ?_); conv => whnf)
    | (refine And.intro (And.intro (by kernel_rfl) (And.intro rfl (Nat.le_of_ble_eq_true rfl))) ?_; conv => whnf)
    | (refine And.intro (And.intro (by kernel_rfl) (by kernel_rfl)) ?_; conv => whnf)
    | (refine And.intro (by kernel_rfl) ?_; conv => whnf)
    | (refine aIf_tt (by assumption) ?_; conv => whnf)
    | (refine aIf_ff (by assumption) ?_; conv => whnf)
    | refine aIf_eqt ?_
    | refine aIf_eqf ?_
    | refine aIf_not ?_
    | (refine aIf_bself ?_; conv => whnf)
    | (refine aIf_beself ?_; conv => whnf)
    | (refine aIf_iself ?_; conv => whnf)
    | (refine aIf_decself ?_; conv => whnf)
    | (refine aIf_dec (fun _ => ?_) (fun _ => ?_) <;> conv => whnf)
    | (refine aIf_beq (fun _ => ?_) (fun _ => ?_) <;> conv => whnf)
    | (refine aIf_bne (fun _ => ?_) (fun _ => ?_) <;> conv => whnf)
    | (refine aIf_bbne (fun _ => ?_) (fun _ => ?_) <;> conv => whnf)
    | (refine aIf_bbeq (fun _ => ?_) (fun _ => ?_) <;> conv => whnf)
    | (refine aIf_in (fun _ => ?_) (fun _ => ?_) <;> conv => whnf))
  · exact retS rfl (congrArg AV.bool (turnOk_f (by omega)).symm)
  · have hn' : n ≤ 3 ∧ (zs.length : Int) = n := by omega
    have hw : IntKind.i64.wrap (n - 1) = n - 1 := IntWalk.i64_in _ (by omega)
    refine loop_in (ι := Nat × List Bool) (fun | (k, bs) => ⟨[.sl c zs.length (zs.map (.int .i64)), .int .i64 n, .un, .un, .bool false, .ref 0 1 0 n.toNat, .int .i64 k, .un, .un, .un, .un, .un, .un, .un, .un, .un, .un, .un, .un, .un, .un, .un, .un, .un, .un, .un, .un, .un, .un, .un, .un, .un, .un, .un, .un, .un, .un, .un, .un, .un, .un, .un, .un, .un, .un], [⟨1, 4, 1, bs.map .bool⟩], 2, 0⟩)
      (fun x => x.1 ≤ zs.length ∧ x.2.length = n.toNat ∧ turnTo zs n x.1 = some x.2) (fun x => zs.length - x.1) (0, List.replicate n.toNat false) ⟨Nat.zero_le _, by simp, rfl⟩ ?_ ?_
    · repeat' (first
        | exact trivial
        | exact rfl
        | exact pureL_ints _ _
        | exact pureL_bools _
        | exact Or.inl (And.intro rfl rfl)
        | exact le_ints rfl
        | exact le_ints (rep_ints _ _)
        | exact le_bools rfl
        | exact le_bools (rep_bools _)
        | refine le_ints ?_
        | refine Or.inr ?_
        | refine And.intro ?_ ?_
        | exact Nat.le_of_ble_eq_true rfl
        | exact Nat.zero_le _
        | exact int_eq (by assumption)
        | exact int_eq (by omega)
        | exact int_eq (Int.add_zero _).symm
        | exact List.length_append
        | exact int_eq (by rw [IntWalk.i64_in _ (by omega)] <;> omega))
    · rintro ⟨k, bs⟩ ⟨hk, hl, ht⟩
      have hk : k ≤ zs.length := hk
      have hl : bs.length = n.toNat := hl
      have ht : turnTo zs n k = some bs := ht
      conv => whnf
      repeat' (first
        | (refine aIf_t ?_; conv => whnf)
        | (refine aIf_f ?_; conv => whnf)
        | (refine fun (_ : _ ≤ maxLen) => ?_; conv => whnf)
        | (refine get_nat0 (by omega) ?_; conv => whnf)
        | (refine get_int0 (by omega) ?_; conv => whnf)
        | (refine get_nat (by omega) ?_; conv => whnf)
        | (refine get_int (by omega) ?_; conv => whnf)
        | (refine aGet_in rfl ?_; conv => whnf)
        | (refine And.intro (And.intro (Int.le_refl _) (And.intro (by kernel_rfl) (And.intro rfl (by kernel_rfl)))) (And.intro (And.intro (by omega) (And.intro (bytes_le (b := 8) rfl (by omega)) (by omega))) ?_); conv => whnf)
        | (refine And.intro (by omega) ?_; conv => whnf)
        | (refine load_same ?_; conv => whnf)
        | (refine And.intro (by rw [List.length_map]; omega) ?_; conv => whnf)
        | (refine And.intro rfl (And.intro (List.cons_ne_nil _ _) ?_); conv => whnf)
        | (refine And.intro (Nat.le_of_ble_eq_true rfl) ?_; conv => whnf)
        | (refine callG_t ?_; conv => whnf)
        | (refine And.intro (And.intro (Int.le_refl _) (And.intro (by kernel_rfl) (And.intro rfl (by kernel_rfl)))) (And.intro (And.intro (by omega) (And.intro (bytes_le (b := 24) rfl (by omega)) (by omega))) ?_); conv => whnf)
        | (refine And.intro (And.intro (Int.le_refl _) (And.intro (by kernel_rfl) (And.intro rfl (by kernel_rfl)))) (And.intro (And.intro (by omega) (And.intro (bytes_le (b := 48) rfl (by omega)) (by omega))) ?_); conv => whnf)
        | (refine takeN_in ?_; conv => whnf)
        | (refine And.intro (pureL_ints _ _) ?_; conv => whnf)
        | (refine cut_ints ?_; conv => whnf)
        | (refine cut_all rfl (scalL_ints _ _) ?_; conv => whnf)
        | (refine cut_all (by simp only [List.length_map]; omega) (scalL_ints _ _) ?_; conv => whnf)
        | (refine in_call ?_; conv => whnf)
        | (refine And.intro rfl (And.intro rfl (And.intro (by first | omega | (rw [List.length_map]; omega)) ?_)); conv => whnf)
        | (refine set_nat ?_ (by omega); conv => whnf)
        | (refine set_int ?_ (by omega); conv => whnf)
        | (refine set_bool ?_ (by omega); conv => whnf)
        | (refine set_force ?_; conv => whnf)
        | (refine get_bool0 (by omega) ?_; conv => whnf)
        | (refine And.intro (And.intro (Int.le_refl _) (And.intro (by kernel_rfl) (And.intro rfl (by kernel_rfl)))) (And.intro (And.intro (by omega) (And.intro (bytes_le (b := 1) rfl (by omega)) (by omega))) ?_); conv => whnf)
        | (refine And.intro (And.intro (by kernel_rfl) (And.intro rfl (Nat.le_of_ble_eq_true rfl))) ?_; conv => whnf)
        | (refine And.intro (And.intro (by kernel_rfl) (by kernel_rfl)) ?_; conv => whnf)
        | (refine And.intro (by kernel_rfl) ?_; conv => whnf)
        | (refine aIf_tt (by assumption) ?_; conv => whnf)
        | (refine aIf_ff (by assumption) ?_; conv => whnf)
        | refine aIf_eqt ?_
        | refine aIf_eqf ?_
        | refine aIf_not ?_
        | (refine aIf_bself ?_; conv => whnf)
        | (refine aIf_beself ?_; conv => whnf)
        | (refine aIf_iself ?_; conv => whnf)
        | (refine aIf_decself ?_; conv => whnf)
        | (refine aIf_dec (fun _ => ?_) (fun _ => ?_) <;> conv => whnf)
        | (refine aIf_beq (fun _ => ?_) (fun _ => ?_) <;> conv => whnf)
        | (refine aIf_bne (fun _ => ?_) (fun _ => ?_) <;> conv => whnf)
        | (refine aIf_bbne (fun _ => ?_) (fun _ => ?_) <;> conv => whnf)
        | (refine aIf_bbeq (fun _ => ?_) (fun _ => ?_) <;> conv => whnf)
        | (refine aIf_in (fun _ => ?_) (fun _ => ?_) <;> conv => whnf))
      · rename_i hb
        exact retS rfl (congrArg AV.bool (turnOk_fk (k := k) (by omega) ht (by rw [hb]; simp)).symm)
      · rename_i hb
        refine next_in (k + 1, bs.set (zs.getD k 0).toNat true) (show zs.length - (k + 1) < zs.length - k by omega) ⟨(show k + 1 ≤ zs.length by omega), by simpa using hl, turnTo_next ht ⟨by omega, by omega, hb⟩⟩ ?_
        have hmax : maxLen = 9223372036854775807 := rfl
        repeat' (first
          | exact trivial
          | exact rfl
          | exact pureL_ints _ _
          | exact pureL_bools _
          | exact Or.inl (And.intro rfl rfl)
          | exact le_ints rfl
          | exact le_ints (rep_ints _ _)
          | exact le_bools rfl
          | exact le_bools (rep_bools _)
          | refine le_ints ?_
          | refine Or.inr ?_
          | refine And.intro ?_ ?_
          | exact Nat.le_of_ble_eq_true rfl
          | exact Nat.zero_le _
          | exact int_eq (by assumption)
          | exact int_eq (by omega)
          | exact int_eq (Int.add_zero _).symm
          | exact List.length_append
          | exact int_eq (by rw [IntWalk.i64_in _ (by omega)] <;> omega))
      · exact retS rfl (congrArg AV.bool (turnOk_fk (k := k) (by omega) ht (by omega)).symm)
      · have e : k = zs.length := by omega
        subst e
        exact retS rfl (congrArg AV.bool (turnOk_t hn' ht).symm)
  · exact retS rfl (congrArg AV.bool (turnOk_f (by omega)).symm)
theorem sTurnOk_call {c : Nat} {zs : List Int} {n : Int} {env : List AV} {rows : List Row} {ctr low : Nat} {k : AV → St → Prop} (h : k (.bool (turnOk zs n)) ⟨env, rows, ctr + 1, low⟩) :
    CallB Try.prog 92 ⟨env, rows, ctr, low⟩ [.sl c zs.length (zs.map (.int .i64)), .int .i64 n] k := callS_in sTurnOk_sound (c, zs, n) trivial rfl h
end Go.Proofs.Ytegoncendpboiaa
