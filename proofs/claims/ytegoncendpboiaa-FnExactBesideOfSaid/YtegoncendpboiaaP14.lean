/- TurnShape. -/
import Derived.Test.YtegoncendpboiaaP12
namespace Go.Proofs.Ytegoncendpboiaa
set_option maxRecDepth 20000
open Go.RowKit Go.Am
attribute [local irreducible] aPlan aGet aIf aLoop aCall RetB NextB CallB CallG aCut aSet

def turned (xs ax : List Int) : List Int := ax.map fun a => xs.getD a.toNat 0
theorem turned_length (xs ax : List Int) : (turned xs ax).length = ax.length := by simp [turned]
theorem turned_getD {xs ax : List Int} {j : Nat} (h : j < ax.length) : (turned xs ax).getD j 0 = xs.getD (ax.getD j 0).toNat 0 := by
  simp [turned, List.getD, List.getElem?_map, List.getElem?_eq_getElem h]
def tsOk (xs ax : List Int) : Bool := shapeOk xs && turnOk ax xs.length
def tsL (xs ax : List Int) : List Int := if tsOk xs ax = true then turned xs ax else []
theorem tsL_t {xs ax : List Int} (h : shapeOk xs = true) (h' : turnOk ax xs.length = true) : tsL xs ax = turned xs ax ∧ true = tsOk xs ax := ⟨if_pos (by unfold tsOk; rw [h, h']; rfl), by unfold tsOk; rw [h, h']; rfl⟩
theorem tsL_f1 {xs ax : List Int} (h : shapeOk xs = false) : tsL xs ax = [] ∧ false = tsOk xs ax := ⟨if_neg (by unfold tsOk; rw [h, Bool.false_and]; decide), by unfold tsOk; rw [h]; rfl⟩
theorem tsL_f2 {xs ax : List Int} (h' : turnOk ax xs.length = false) : tsL xs ax = [] ∧ false = tsOk xs ax := ⟨if_neg (by unfold tsOk; rw [h', Bool.and_false]; decide), by unfold tsOk; rw [h', Bool.and_false]⟩
theorem tsL_le (xs ax : List Int) : (tsL xs ax).length ≤ ax.length := by
  unfold tsL; split
  · exact Nat.le_of_eq (turned_length _ _)
  · exact Nat.zero_le _

def sTurnShape : CSpec := fnLB (ι := Nat × List Int × Nat × List Int) 3 (fun | (c, xs, d, ax) => [.sl c xs.length (xs.map (.int .i64)), .sl d ax.length (ax.map (.int .i64))]) (fun | (_, xs, _, ax) => xs.length ≤ 1048576 ∧ ax.length ≤ 1048576) (fun | (_, xs, _, ax) => tsL xs ax) (fun | (_, xs, _, ax) => tsOk xs ax)
theorem ts_end {env : List AV} {rows : List Row} {ctr τ ver : Nat} {xs ax zs' : List Int} {b : Bool} {r : Row} {n : Nat} (e1 : tsL xs ax = zs' ∧ b = tsOk xs ax) (hr : rows[τ]? = some r) (hv : r.ver = ver) (e : r = ⟨ver, 3, 1, zs'.map (.int .i64)⟩) (hn : n = zs'.length) :
    RetB ⟨env, rows, ctr, 0⟩ [] (fun r ic news => r = .tup [.ref 0 0 0 (tsL xs ax).length, .bool (tsOk xs ax)] ∧ ic = [] ∧ news = [⟨0, 3, 1, (tsL xs ax).map (.int .i64)⟩]) (.tup [.ref τ ver 0 n, .bool b]) := by
  rw [e1.1]; exact retLB hr hv e hn e1.2

set_option maxRecDepth 10000 in
theorem iTurnShape_sound : Sound Try.prog 90 sTurnShape := by
  refine sound_of Try.func90 rfl (enters_of Try.func90 (by kernel_rfl) (by kernel_rfl)) ?_
  rintro ⟨c, xs, d, ax⟩ hpre
  have hpre : xs.length ≤ 1048576 ∧ ax.length ≤ 1048576 := hpre
  conv => whnf
  repeat' (first
    | (refine aIf_t ?_; conv => whnf)
    | (refine aIf_f ?_; conv => whnf)
    | (refine fun (_ : _ ≤ maxLen) => ?_; conv => whnf)
    | (refine get_nat0 (by omega) ?_; conv => whnf)
    | (refine get_int0 (by omega) ?_; conv => whnf)
    | (refine get_nat (by omega) ?_; conv => whnf)
    | (refine get_int (by omega) ?_; conv => whnf)
    | (refine aGet_in rfl ?_; conv => whnf)
    | (refine And.intro (And.intro (Int.le_refl _) (And.intro (by kernel_rfl) (And.intro rfl (by kernel_rfl)))) (And.intro (And.intro (by omega) (And.intro (bytes_le (b := 8) rfl (by omega)) (by omega))) ?_); conv => whnf)
    | (refine And.intro (by omega) ?_; conv => whnf)
    | (refine load_same ?_; conv => whnf)
    | (refine And.intro (by rw [List.length_map]; omega) ?_; conv => whnf)
    | (refine And.intro rfl (And.intro (List.cons_ne_nil _ _) ?_); conv => whnf)
    | (refine And.intro (Nat.le_of_ble_eq_true rfl) ?_; conv => whnf)
    | (refine callG_t ?_; conv => whnf)
    | (refine And.intro (And.intro (Int.le_refl _) (And.intro (by kernel_rfl) (And.intro rfl (by kernel_rfl)))) (And.intro (And.intro (by omega) (And.intro (bytes_le (b := 24) rfl (by omega)) (by omega))) ?_); conv => whnf)
    | (refine And.intro (And.intro (Int.le_refl _) (And.intro (by kernel_rfl) (And.intro rfl (by kernel_rfl)))) (And.intro (And.intro (by omega) (And.intro (bytes_le (b := 48) rfl (by omega)) (by omega))) ?_); conv => whnf)
    | (refine takeN_in ?_; conv => whnf)
    | (refine And.intro (pureL_ints _ _) ?_; conv => whnf)
    | (refine cut_ints ?_; conv => whnf)
    | (refine cut_all rfl (scalL_ints _ _) ?_; conv => whnf)
    | (refine cut_all (by simp only [List.length_map]; omega) (scalL_ints _ _) ?_; conv => whnf)
    | (refine iShapeOk_call ?_; conv => whnf)
    | (refine And.intro rfl (And.intro rfl (And.intro (by first | omega | (rw [List.length_map]; omega)) ?_)); conv => whnf)
    | (refine set_nat ?_ (by omega); conv => whnf)
    | (refine set_int ?_ (by omega); conv => whnf)
    | (refine set_bool ?_ (by omega); conv => whnf)
    | (refine set_force ?_; conv => whnf)
    | (refine get_bool0 (by omega) ?_; conv => whnf)
    | (refine And.intro (And.intro (Int.le_refl _) (And.intro (by kernel_rfl) (And.intro rfl (by kernel_rfl)))) (And.intro (And.intro (by omega) (And.intro (bytes_le (b := 1) rfl (by omega)) (by omega))) ?_); conv => whnf)
    | (refine iTurnOk_call ?_; conv => whnf)
    | (refine And.intro (And.intro (by kernel_rfl) (And.intro rfl (Nat.le_of_ble_eq_true rfl))) ?_; conv => whnf)
    | (refine And.intro (And.intro (by kernel_rfl) (by kernel_rfl)) ?_; conv => whnf)
    | (refine And.intro (by kernel_rfl) ?_; conv => whnf)
    | (refine aIf_tt (by assumption) ?_; conv => whnf)
    | (refine aIf_ff (by assumption) ?_; conv => whnf)
    | refine aIf_eqt ?_
    | refine aIf_eqf ?_
    | refine aIf_not ?_
    | (refine aIf_bself ?_; conv => whnf)
    | (refine aIf_beself ?_; conv => whnf)
    | (refine aIf_iself ?_; conv => whnf)
    | (refine aIf_decself ?_; conv => whnf)
    | (refine aIf_dec (fun _ => ?_) (fun _ => ?_) <;> conv => whnf)
    | (refine aIf_beq (fun _ => ?_) (fun _ => ?_) <;> conv => whnf)
    | (refine aIf_bne (fun _ => ?_) (fun _ => ?_) <;> conv => whnf)
    | (refine aIf_bbne (fun _ => ?_) (fun _ => ?_) <;> conv => whnf)
    | (refine aIf_bbeq (fun _ => ?_) (fun _ => ?_) <;> conv => whnf)
    | (refine aIf_in (fun _ => ?_) (fun _ => ?_) <;> conv => whnf))
  · rename_i hs _ ht _ _
    have hin := turnOk_in ht
    refine loop_in (ι := Nat × List Int) (fun | (k, ws) => ⟨[.sl c xs.length (xs.map (.int .i64)), .sl d ax.length (ax.map (.int .i64)), .un, .un, .un, .un, .ref 1 4 0 ax.length, .un, .un, .un, .un, .un, .un, .un, .un, .un, .un, .un, .un, .un, .un, .un, .sl d ax.length (ax.map (.int .i64)), .int .i64 ax.length, .int .i64 k, .un, .un, .un, .un, .un, .un, .un, .un, .un, .un, .un, .un, .un], [⟨1, 3, 1, []⟩, ⟨4, 3, 1, ws.map (.int .i64)⟩], 5, 0⟩)
      (fun x => x.1 ≤ ax.length ∧ x.2.length = ax.length ∧ ∀ j, j < x.1 → x.2.getD j 0 = xs.getD (ax.getD j 0).toNat 0) (fun x => ax.length - x.1) (0, List.replicate ax.length 0) ⟨Nat.zero_le _, by simp, fun j hj => absurd hj (Nat.not_lt_zero _)⟩ ?_ ?_
    · repeat' (first
        | exact trivial
        | exact rfl
        | exact pureL_ints _ _
        | exact pureL_bools _
        | exact Or.inl (And.intro rfl rfl)
        | exact le_ints rfl
        | exact le_ints (rep_ints _ _)
        | exact le_bools rfl
        | exact le_bools (rep_bools _)
        | refine le_ints ?_
        | refine Or.inr ?_
        | refine And.intro ?_ ?_
        | exact Nat.le_of_ble_eq_true rfl
        | exact Nat.zero_le _
        | exact int_eq (by assumption)
        | exact int_eq (by omega)
        | exact int_eq (Int.add_zero _).symm
        | exact List.length_append
        | exact int_eq (by rw [IntWalk.i64_in _ (by omega)] <;> omega))
    · rintro ⟨k, ws⟩ ⟨hk, hl, hall⟩
      have hk : k ≤ ax.length := hk
      have hl : ws.length = ax.length := hl
      have hall : ∀ j, j < k → ws.getD j 0 = xs.getD (ax.getD j 0).toNat 0 := hall
      have hink := hin.2 k
      have hn := hin.1.2
      conv => whnf
      repeat' (first
        | (refine aIf_t ?_; conv => whnf)
        | (refine aIf_f ?_; conv => whnf)
        | (refine fun (_ : _ ≤ maxLen) => ?_; conv => whnf)
        | (refine get_nat0 (by omega) ?_; conv => whnf)
        | (refine get_int0 (by omega) ?_; conv => whnf)
        | (refine get_nat (by omega) ?_; conv => whnf)
        | (refine get_int (by omega) ?_; conv => whnf)
        | (refine aGet_in rfl ?_; conv => whnf)
        | (refine And.intro (And.intro (Int.le_refl _) (And.intro (by kernel_rfl) (And.intro rfl (by kernel_rfl)))) (And.intro (And.intro (by omega) (And.intro (bytes_le (b := 8) rfl (by omega)) (by omega))) ?_); conv => whnf)
        | (refine And.intro (by omega) ?_; conv => whnf)
        | (refine load_same ?_; conv => whnf)
        | (refine And.intro (by rw [List.length_map]; omega) ?_; conv => whnf)
        | (refine And.intro rfl (And.intro (List.cons_ne_nil _ _) ?_); conv => whnf)
        | (refine And.intro (Nat.le_of_ble_eq_true rfl) ?_; conv => whnf)
        | (refine callG_t ?_; conv => whnf)
        | (refine And.intro (And.intro (Int.le_refl _) (And.intro (by kernel_rfl) (And.intro rfl (by kernel_rfl)))) (And.intro (And.intro (by omega) (And.intro (bytes_le (b := 24) rfl (by omega)) (by omega))) ?_); conv => whnf)
        | (refine And.intro (And.intro (Int.le_refl _) (And.intro (by kernel_rfl) (And.intro rfl (by kernel_rfl)))) (And.intro (And.intro (by omega) (And.intro (bytes_le (b := 48) rfl (by omega)) (by omega))) ?_); conv => whnf)
        | (refine takeN_in ?_; conv => whnf)
        | (refine And.intro (pureL_ints _ _) ?_; conv => whnf)
        | (refine cut_ints ?_; conv => whnf)
        | (refine cut_all rfl (scalL_ints _ _) ?_; conv => whnf)
        | (refine cut_all (by simp only [List.length_map]; omega) (scalL_ints _ _) ?_; conv => whnf)
        | (refine iShapeOk_call ?_; conv => whnf)
        | (refine And.intro rfl (And.intro rfl (And.intro (by first | omega | (rw [List.length_map]; omega)) ?_)); conv => whnf)
        | (refine set_nat ?_ (by omega); conv => whnf)
        | (refine set_int ?_ (by omega); conv => whnf)
        | (refine set_bool ?_ (by omega); conv => whnf)
        | (refine set_force ?_; conv => whnf)
        | (refine get_bool0 (by omega) ?_; conv => whnf)
        | (refine And.intro (And.intro (Int.le_refl _) (And.intro (by kernel_rfl) (And.intro rfl (by kernel_rfl)))) (And.intro (And.intro (by omega) (And.intro (bytes_le (b := 1) rfl (by omega)) (by omega))) ?_); conv => whnf)
        | (refine iTurnOk_call ?_; conv => whnf)
        | (refine And.intro (And.intro (by kernel_rfl) (And.intro rfl (Nat.le_of_ble_eq_true rfl))) ?_; conv => whnf)
        | (refine And.intro (And.intro (by kernel_rfl) (by kernel_rfl)) ?_; conv => whnf)
        | (refine And.intro (by kernel_rfl) ?_; conv => whnf)
        | (refine aIf_tt (by assumption) ?_; conv => whnf)
        | (refine aIf_ff (by assumption) ?_; conv => whnf)
        | refine aIf_eqt ?_
        | refine aIf_eqf ?_
        | refine aIf_not ?_
        | (refine aIf_bself ?_; conv => whnf)
        | (refine aIf_beself ?_; conv => whnf)
        | (refine aIf_iself ?_; conv => whnf)
        | (refine aIf_decself ?_; conv => whnf)
        | (refine aIf_dec (fun _ => ?_) (fun _ => ?_) <;> conv => whnf)
        | (refine aIf_beq (fun _ => ?_) (fun _ => ?_) <;> conv => whnf)
        | (refine aIf_bne (fun _ => ?_) (fun _ => ?_) <;> conv => whnf)
        | (refine aIf_bbne (fun _ => ?_) (fun _ => ?_) <;> conv => whnf)
        | (refine aIf_bbeq (fun _ => ?_) (fun _ => ?_) <;> conv => whnf)
        | (refine aIf_in (fun _ => ?_) (fun _ => ?_) <;> conv => whnf))
      · refine next_in (k + 1, ws.set k (xs.getD (ax.getD k 0).toNat 0)) (show ax.length - (k + 1) < ax.length - k by omega) ⟨(show k + 1 ≤ ax.length by omega), by simpa using hl, fun j hj => ?_⟩ ?_
        · have hj : j < k + 1 := hj
          show (ws.set k (xs.getD (ax.getD k 0).toNat 0)).getD j 0 = _
          rw [getD_set (by omega)]
          split
          · rename_i e; rw [e]
          · exact hall j (by omega)
        · repeat' (first
            | exact trivial
            | exact rfl
            | exact pureL_ints _ _
            | exact pureL_bools _
            | exact Or.inl (And.intro rfl rfl)
            | exact le_ints rfl
            | exact le_ints (rep_ints _ _)
            | exact le_bools rfl
            | exact le_bools (rep_bools _)
            | refine le_ints ?_
            | refine Or.inr ?_
            | refine And.intro ?_ ?_
            | exact Nat.le_of_ble_eq_true rfl
            | exact Nat.zero_le _
            | exact int_eq (by assumption)
            | exact int_eq (by omega)
            | exact int_eq (Int.add_zero _).symm
            | exact List.length_append
            | exact int_eq (by rw [IntWalk.i64_in _ (by omega)] <;> omega))
      · have e : k = ax.length := by omega
        subst e
        have e : ws = turned xs ax := getD_ext (by rw [turned_length, hl]) fun j hj => by
          rw [turned_length] at hj
          rw [hall j hj, turned_getD hj]
        subst e
        exact ts_end (tsL_t hs ht) rfl rfl rfl hl.symm
  · rename_i h
    exact ts_end (tsL_f2 h) rfl rfl rfl rfl
  · rename_i h
    exact ts_end (tsL_f1 h) rfl rfl rfl rfl

end Go.Proofs.Ytegoncendpboiaa
