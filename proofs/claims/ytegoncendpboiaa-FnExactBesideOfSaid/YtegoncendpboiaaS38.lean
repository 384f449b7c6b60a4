/- Chapter 2: BesideOf of the program. -/
import Derived.Test.YtegoncendpboiaaS36
import Derived.Test.YtegoncendpboiaaS37
import Derived.Test.YtegoncendpboiaaS21
namespace Go.Proofs.Ytegoncendpboiaa
set_option maxRecDepth 20000
open Go.RowKit Go.Am
attribute [local irreducible] aPlan aGet aIf aLoop aCall RetB NextB CallB CallG aCut aSet aAppend

def bsPick (zs qs : List Int) (r : Bool × Int) : Int := if r.1 = true then zs.getD r.2.toNat 0 else qs.getD r.2.toNat 0
def bsP (xs zs ps qs : List Int) (i : Int) : Prop := tensorOk xs zs = true ∧ tensorOk ps qs = true ∧ (0 ≤ i ∧ i < xs.length) ∧ ps = xs.set i.toNat (ps.getD i.toNat 0) ∧ xs.getD i.toNat 0 + ps.getD i.toNat 0 ≤ 4
instance (xs zs ps qs : List Int) (i : Int) : Decidable (bsP xs zs ps qs i) := by unfold bsP; infer_instance
def bsL (xs zs qs : List Int) (a : Nat) (p : Int) : List Int := (List.range (cntTo (bsSh xs a p) (bsSh xs a p).length).toNat).map fun i => bsPick zs qs (bsRef xs a p i)
def bsM (xs zs ps qs : List Int) (i : Int) : TM := if bsP xs zs ps qs i then (bsSh xs i.toNat (ps.getD i.toNat 0), bsL xs zs qs i.toNat (ps.getD i.toNat 0), true) else noT
theorem bsM_t {xs zs ps qs : List Int} {a : Nat} (h : bsP xs zs ps qs a) : bsM xs zs ps qs a = (bsSh xs a (ps.getD a 0), bsL xs zs qs a (ps.getD a 0), true) := by unfold bsM; rw [if_pos h, Int.toNat_natCast]
theorem bsM_f {xs zs ps qs : List Int} {i : Int} (h : ¬ bsP xs zs ps qs i) : bsM xs zs ps qs i = noT := if_neg h
theorem bsSh_length (xs : List Int) (a : Nat) (p : Int) : (bsSh xs a p).length = xs.length := by simp [bsSh]
theorem blk_map {zs : List Int} {A k n : Nat} (h : zs.length = n * A) (hk : k < n) : (zs.drop (k * A)).take A = (List.range A).map fun j => zs.getD (k * A + j) 0 := by
  refine getD_ext (by rw [blk_len h hk]; simp) fun j hj => ?_
  have hj : j < A := by simpa using hj
  have hl := blk_len h hk
  have : (k + 1) * A ≤ n * A := Nat.mul_le_mul_right A hk
  rw [Nat.add_mul, Nat.one_mul, ← h] at this
  rw [range_getD hj]
  simp only [List.getD, List.getElem?_take, List.getElem?_drop]
  rw [if_pos hj]
theorem btL_turn {zs qs : List Int} {A B n : Nat} (hz : zs.length = n * A) (hq : qs.length = n * B) : btL zs qs A B n = (bsTurn A B n).map (bsPick zs qs) := by
  have key : ∀ k, k ≤ n → btL zs qs A B k = (bsTurn A B k).map (bsPick zs qs) := by
    intro k
    induction k with
    | zero => intro _; rfl
    | succ k ih =>
      intro hk
      have e : bsTurn A B (k + 1) = bsTurn A B k ++ (((List.range A).map fun j => (true, ((k * A + j : Nat) : Int))) ++ ((List.range B).map fun j => (false, ((k * B + j : Nat) : Int)))) := by
        unfold bsTurn; rw [List.range_succ, List.flatMap_append]; simp
      rw [btL_succ, ih (by omega), e, List.map_append, List.map_append, List.map_map, List.map_map, blk_map hz (by omega), blk_map hq (by omega)]
      rfl
  exact key n (Nat.le_refl _)
/-- What is known of two tensors that go beside each other. -/
theorem bs_all {xs zs ps qs : List Int} {a : Nat} (ht : tensorOk xs zs = true) (hu : tensorOk ps qs = true) (ha : a < xs.length) (he : ps = xs.set a (ps.getD a 0)) :
    BsFacts xs a (ps.getD a 0) ∧ zs.length = bsN xs a * bsA xs a ∧ qs.length = bsN xs a * bsB xs a (ps.getD a 0) ∧ bsN xs a ≤ 64 ∧ (1 ≤ ps.getD a 0 ∧ ps.getD a 0 ≤ 4) := by
  obtain ⟨hs, t2, -⟩ := (tensorOk_iff _ _).1 ht
  obtain ⟨hs', u2, -⟩ := (tensorOk_iff _ _).1 hu
  have hl : ps.length = xs.length := by rw [he]; simp
  have hp := size_in hs' (show a < ps.length by omega)
  have F := bs_facts hs ha hp
  have hc := cnt64 hs (Nat.le_refl _)
  have e1 : zs.length = bsN xs a * bsA xs a := by have := F.cx; omega
  have e2 : qs.length = bsN xs a * bsB xs a (ps.getD a 0) := by
    have := F.cp
    rw [← he] at this
    omega
  refine ⟨F, e1, e2, ?_, hp⟩
  have h1 := F.ab.1
  have : bsN xs a * 1 ≤ bsN xs a * bsA xs a := Nat.mul_le_mul_left _ h1
  omega
theorem bsL_length (xs zs qs : List Int) (a : Nat) (p : Int) : (bsL xs zs qs a p).length = (cntTo (bsSh xs a p) (bsSh xs a p).length).toNat := by simp [bsL]
theorem bs_told {xs zs ps qs : List Int} {a : Nat} (h : bsP xs zs ps qs a) : tensorOk (bsSh xs a (ps.getD a 0)) (bsL xs zs qs a (ps.getD a 0)) = true ∧ btL zs qs (bsA xs a) (bsB xs a (ps.getD a 0)) (bsN xs a) = bsL xs zs qs a (ps.getD a 0) := by
  obtain ⟨ht, hu, hi, he, hle⟩ := h
  rw [Int.toNat_natCast] at he hle
  have ha : a < xs.length := by omega
  obtain ⟨F, e1, e2, -, -⟩ := bs_all ht hu ha he
  obtain ⟨g1, g2, g3⟩ := F.good hle
  have hc := cnt64 g1 (Nat.le_refl _)
  obtain ⟨-, t2, t3⟩ := (tensorOk_iff _ _).1 ht
  obtain ⟨-, u2, u3⟩ := (tensorOk_iff _ _).1 hu
  refine ⟨tensorOk_t g1 (by rw [bsL_length]; omega) fun j hj => ?_, ?_⟩
  · rw [bsL_length] at hj
    have h := g3 j (by omega)
    have e : (bsL xs zs qs a (ps.getD a 0)).getD j 0 = bsPick zs qs (bsRef xs a (ps.getD a 0) j) := range_getD hj
    rw [e]
    unfold bsIn at h
    unfold bsPick
    rw [Bool.and_eq_true, decide_eq_true_iff] at h
    obtain ⟨h0, h1⟩ := h
    split
    · rename_i hb
      rw [if_pos hb, decide_eq_true_iff] at h1
      exact t3 _ (by omega)
    · rename_i hb
      rw [if_neg hb, decide_eq_true_iff, ← he] at h1
      exact u3 _ (by omega)
  · rw [btL_turn e1 e2, g2, List.map_map]; rfl
def sBesideOf : CSpec := fnTB (ι := Nat × List Int × Nat × List Int × Nat × List Int × Nat × List Int × Int) 3 (fun | (c, xs, d, zs, e, ps, f, qs, i) => [.agg [.sl c xs.length (xs.map (.int .i64)), .sl d zs.length (zs.map (.int .i64))], .agg [.sl e ps.length (ps.map (.int .i64)), .sl f qs.length (qs.map (.int .i64))], .int .i64 i]) (fun _ => True) (fun | (_, xs, _, zs, _, ps, _, qs, i) => bsM xs zs ps qs i)
theorem byTurns_call {c d : Nat} {zs qs : List Int} {A B n : Nat} {x y : Int} {env : List AV} {rows : List Row} {ctr low : Nat} {k : AV → St → Prop} (hx : x = A) (hy : y = B) (hpre : zs.length = n * A ∧ qs.length = n * B ∧ (1 ≤ A ∧ A ≤ 64 ∧ 1 ≤ B ∧ B ≤ 64) ∧ n ≤ 64)
    (h : k (.ref rows.length ctr 0 (btL zs qs A B n).length) ⟨env, rows ++ [⟨ctr, 3, 1, (btL zs qs A B n).map (.int .i64)⟩], ctr + 1, low⟩) :
    CallB Try.prog 82 ⟨env, rows, ctr, low⟩ [.sl c zs.length (zs.map (.int .i64)), .int .i64 x, .sl d qs.length (qs.map (.int .i64)), .int .i64 y] k := by
  subst hx; subst hy
  exact callL_in byTurns_sound (c, zs, A, d, qs, B, n) hpre h
theorem sameNums_calln {c d n : Nat} {xs ys : List Int} {env : List AV} {rows : List Row} {ctr low : Nat} {k : AV → St → Prop} (hn : n = xs.length) (h : k (.bool (decide (xs = ys))) ⟨env, rows, ctr + 1, low⟩) :
    CallB Try.prog 79 ⟨env, rows, ctr, low⟩ [.sl c n (xs.map (.int .i64)), .sl d ys.length (ys.map (.int .i64))] k := by
  subst hn; exact sameNums_call h
set_option maxHeartbeats 8000000 in
theorem iBesideOf_sound : Sound Try.prog 19 sBesideOf := by
  refine sound_of Try.func19 rfl (enters_of Try.func19 (by kernel_rfl) (by kernel_rfl)) ?_
  rintro ⟨c, xs, d, zs, e, ps, f, qs, i⟩ -
  have hmax : maxLen = 9223372036854775807 := rfl
  rcases tensor_or xs zs with ⟨ht, hx, hz⟩ | ht
  · rcases tensor_or ps qs with ⟨hu, hy, hw⟩ | hu
    · by_cases hi : 0 ≤ i ∧ i < xs.length
      · obtain ⟨a, rfl⟩ : ∃ a : Nat, i = a := ⟨i.toNat, by omega⟩
        have ha : a < xs.length := by omega
        by_cases hj : a < ps.length
        · by_cases he : xs.set a (ps.getD a 0) = ps
          · obtain ⟨F, e1, e2, hn, hp⟩ := bs_all ht hu ha he.symm
            have hs := ((tensorOk_iff _ _).1 ht).1
            have hsz := size_in hs ha
            have hso : stridesOf xs = strides xs := if_pos hs
            have hsl : (stridesOf xs).length = xs.length := by rw [hso, strides_length]
            have hA : IntKind.i64.wrap ((stridesOf xs).getD a 0 * xs.getD a 0) = bsA xs a := by
              rw [hso]; have := F.ea; unfold bsStp at this; rw [this]; exact IntWalk.i64_in _ (by have := F.ab; omega)
            have hB : IntKind.i64.wrap ((stridesOf xs).getD a 0 * ps.getD a 0) = bsB xs a (ps.getD a 0) := by
              rw [hso]; have := F.eb; unfold bsStp at this; rw [this]; exact IntWalk.i64_in _ (by have := F.ab; omega)
            have hpl : ps.length = xs.length := by rw [← he]; simp
            have hw1 : IntKind.i64.wrap (ps.getD a 0 + xs.getD a 0) = xs.getD a 0 + ps.getD a 0 := by rw [Int.add_comm]; exact IntWalk.i64_in _ (by omega)
            conv => whnf
            repeat' (first
              | (refine plan_in2 (id := 7) [0, 1, 2, 3, 4, 5, 6, 7, 8, 9, 10, 11] (by kernel_rfl) (by kernel_rfl) ?_; conv => whnf)
              | (refine plan_in2 (id := 9) [0, 1, 2, 3, 4, 5, 6, 7, 8, 9, 10, 11, 12, 13, 14, 15, 16, 17, 18, 19, 20, 21, 22, 23, 24] (by kernel_rfl) (by kernel_rfl) ?_; conv => whnf)
              | (refine aIf_t ?_; conv => whnf)
              | (refine aIf_f ?_; conv => whnf)
              | (refine fun (_ : _ ≤ maxLen) => ?_; conv => whnf)
              | (refine get_nat0 (by omega) ?_; conv => whnf)
              | (refine get_int0 (by omega) ?_; conv => whnf)
              | (refine get_nat (by omega) ?_; conv => whnf)
              | (refine get_int (by omega) ?_; conv => whnf)
              | (refine aGet_in rfl ?_; conv => whnf)
              | (refine And.intro (And.intro (Int.le_refl _) (And.intro (by kernel_rfl) (And.intro rfl (by kernel_rfl)))) (And.intro (And.intro (by omega) (And.intro (bytes_le (b := 8) rfl (by omega)) (by omega))) ?_); conv => whnf)
              | (refine And.intro (by omega) ?_; conv => whnf)
              | (refine load_same ?_; conv => whnf)
              | (refine And.intro (by rw [List.length_map]; omega) ?_; conv => whnf)
              | (refine And.intro rfl (And.intro (List.cons_ne_nil _ _) ?_); conv => whnf)
              | (refine And.intro (Nat.le_of_ble_eq_true rfl) ?_; conv => whnf)
              | (refine orNone_call _ _ rfl rfl (by decide) (by first | rfl | omega) (by first | rfl | omega) (fun _ => ?_) (fun _ => ?_) <;> conv => whnf)
              | (refine orNone_call [_, _] _ rfl rfl (by decide) (by first | rfl | omega) (by first | rfl | omega) (fun _ => ?_) (fun _ => ?_) <;> conv => whnf)
              | (refine callG_t ?_; conv => whnf)
              | (refine copyNums_call (by omega) ?_; conv => whnf)
              | (refine axisOk_call ?_; conv => whnf)
              | (refine iTensorOk_call ?_; conv => whnf)
              | (refine And.intro (And.intro (Int.le_refl _) (And.intro (by kernel_rfl) (And.intro rfl (by kernel_rfl)))) (And.intro (And.intro (by omega) (And.intro (bytes_le (b := 24) rfl (by omega)) (by omega))) ?_); conv => whnf)
              | (refine And.intro (And.intro (Int.le_refl _) (And.intro (by kernel_rfl) (And.intro rfl (by kernel_rfl)))) (And.intro (And.intro (by omega) (And.intro (bytes_le (b := 48) rfl (by omega)) (by omega))) ?_); conv => whnf)
              | (refine And.intro rfl (And.intro rfl (And.intro (by rw [fillC_length (by omega)]; omega) ?_)); conv => whnf)
              | (refine And.intro rfl (And.intro rfl (And.intro (by rw [fillF_length (ndO_length _) rfl (by omega)]; omega) ?_)); conv => whnf)
              | (refine And.intro rfl (And.intro rfl (And.intro (by rw [fillF_length (tnO_length _) rfl (by omega)]; omega) ?_)); conv => whnf)
              | (refine set_fillC (by omega) (by omega) ?_; conv => whnf)
              | (refine set_fillF (ndO_length _) (by omega) rfl ?_; conv => whnf)
              | (refine set_fillF (tnO_length _) (by omega) rfl ?_; conv => whnf)
              | (refine And.intro (ond_fit (by omega) (Nat.le_of_ble_eq_true rfl)) ?_; conv => whnf)
              | (refine set_ond (by omega) (Nat.le_of_ble_eq_true rfl) ⟨_, rfl⟩ (fun _ _ _ _ => ?_); conv => whnf)
              | (refine get_oi_n (by omega) ?_; conv => whnf)
              | (refine get_ond_n (by omega) rfl ?_; conv => whnf)
              | (refine get_otn_n (by omega) rfl ?_; conv => whnf)
              | (refine takeN_in ?_; conv => whnf)
              | (refine And.intro (pureL_ints _ _) ?_; conv => whnf)
              | (refine And.intro (pureL_take _ _ _) ?_; conv => whnf)
              | (refine And.intro (pureL_cut _ _ _ _) ?_; conv => whnf)
              | (refine cut_ints ?_; conv => whnf)
              | (refine cut_marks ?_; conv => whnf)
              | (refine cut_all rfl (scalL_ints _ _) ?_; conv => whnf)
              | (refine cut_all (by simp only [List.length_map]; omega) (scalL_ints _ _) ?_; conv => whnf)
              | (refine append_int rfl rfl (by first | rfl | (simp only [List.length_take, turned_length]; omega)) (by omega) (Nat.le_of_ble_eq_true rfl) ?_; conv => whnf)
              | (refine sameNums_call ?_; conv => whnf)
              | (refine iStridesOf_call (by omega) ?_; conv => whnf)
              | (refine And.intro rfl (And.intro rfl (And.intro (by first | omega | (rw [List.length_map]; omega)) ?_)); conv => whnf)
              | (refine set_nat ?_ (by omega); conv => whnf)
              | (refine set_int ?_ (by omega); conv => whnf)
              | (refine set_bool ?_ (by omega); conv => whnf)
              | (refine set_force ?_; conv => whnf)
              | (refine get_bool0 (by omega) ?_; conv => whnf)
              | (refine And.intro (And.intro (Int.le_refl _) (And.intro (by kernel_rfl) (And.intro rfl (by kernel_rfl)))) (And.intro (And.intro (by omega) (And.intro (bytes_le (b := 1) rfl (by omega)) (by omega))) ?_); conv => whnf)
              | (refine And.intro (And.intro (by kernel_rfl) (And.intro rfl (Nat.le_of_ble_eq_true rfl))) ?_; conv => whnf)
              | (refine And.intro (And.intro (by kernel_rfl) (by kernel_rfl)) ?_; conv => whnf)
              | (refine And.intro (by kernel_rfl) ?_; conv => whnf)
              | (refine aIf_tt (by assumption) ?_; conv => whnf)
              | (refine aIf_ff (by assumption) ?_; conv => whnf)
              | refine aIf_eqt ?_
              | refine aIf_eqf ?_
              | refine aIf_not ?_
              | (refine aIf_bself ?_; conv => whnf)
              | (refine aIf_beself ?_; conv => whnf)
              | (refine aIf_iself ?_; conv => whnf)
              | (refine aIf_decself ?_; conv => whnf)
              | (refine aIf_dec (fun _ => ?_) (fun _ => ?_) <;> conv => whnf)
              | (refine aIf_beq (fun _ => ?_) (fun _ => ?_) <;> conv => whnf)
              | (refine aIf_bne (fun _ => ?_) (fun _ => ?_) <;> conv => whnf)
              | (refine aIf_bbne (fun _ => ?_) (fun _ => ?_) <;> conv => whnf)
              | (refine aIf_bbeq (fun _ => ?_) (fun _ => ?_) <;> conv => whnf)
              | (refine aIf_in (fun _ => ?_) (fun _ => ?_) <;> conv => whnf))
            all_goals (first | (exfalso; omega) | skip)
            rw [he]
            refine cut_all (by show xs.length * 1 = _; rw [List.length_map]; omega) (scalL_ints _ _) ?_
            conv => whnf
            repeat' (first
              | (refine plan_in2 (id := 7) [0, 1, 2, 3, 4, 5, 6, 7, 8, 9, 10, 11] (by kernel_rfl) (by kernel_rfl) ?_; conv => whnf)
              | (refine plan_in2 (id := 9) [0, 1, 2, 3, 4, 5, 6, 7, 8, 9, 10, 11, 12, 13, 14, 15, 16, 17, 18, 19, 20, 21, 22, 23, 24] (by kernel_rfl) (by kernel_rfl) ?_; conv => whnf)
              | (refine aIf_t ?_; conv => whnf)
              | (refine aIf_f ?_; conv => whnf)
              | (refine fun (_ : _ ≤ maxLen) => ?_; conv => whnf)
              | (refine get_nat0 (by omega) ?_; conv => whnf)
              | (refine get_int0 (by omega) ?_; conv => whnf)
              | (refine get_nat (by omega) ?_; conv => whnf)
              | (refine get_int (by omega) ?_; conv => whnf)
              | (refine aGet_in rfl ?_; conv => whnf)
              | (refine And.intro (And.intro (Int.le_refl _) (And.intro (by kernel_rfl) (And.intro rfl (by kernel_rfl)))) (And.intro (And.intro (by omega) (And.intro (bytes_le (b := 8) rfl (by omega)) (by omega))) ?_); conv => whnf)
              | (refine And.intro (by omega) ?_; conv => whnf)
              | (refine load_same ?_; conv => whnf)
              | (refine And.intro (by rw [List.length_map]; omega) ?_; conv => whnf)
              | (refine And.intro rfl (And.intro (List.cons_ne_nil _ _) ?_); conv => whnf)
              | (refine And.intro (Nat.le_of_ble_eq_true rfl) ?_; conv => whnf)
              | (refine orNone_call _ _ rfl rfl (by decide) (by first | rfl | omega) (by first | rfl | omega) (fun _ => ?_) (fun _ => ?_) <;> conv => whnf)
              | (refine orNone_call [_, _] _ rfl rfl (by decide) (by first | rfl | omega) (by first | rfl | omega) (fun _ => ?_) (fun _ => ?_) <;> conv => whnf)
              | (refine callG_t ?_; conv => whnf)
              | (refine copyNums_call (by omega) ?_; conv => whnf)
              | (refine axisOk_call ?_; conv => whnf)
              | (refine iTensorOk_call ?_; conv => whnf)
              | (refine And.intro (And.intro (Int.le_refl _) (And.intro (by kernel_rfl) (And.intro rfl (by kernel_rfl)))) (And.intro (And.intro (by omega) (And.intro (bytes_le (b := 24) rfl (by omega)) (by omega))) ?_); conv => whnf)
              | (refine And.intro (And.intro (Int.le_refl _) (And.intro (by kernel_rfl) (And.intro rfl (by kernel_rfl)))) (And.intro (And.intro (by omega) (And.intro (bytes_le (b := 48) rfl (by omega)) (by omega))) ?_); conv => whnf)
              | (refine And.intro rfl (And.intro rfl (And.intro (by rw [fillC_length (by omega)]; omega) ?_)); conv => whnf)
              | (refine And.intro rfl (And.intro rfl (And.intro (by rw [fillF_length (ndO_length _) rfl (by omega)]; omega) ?_)); conv => whnf)
              | (refine And.intro rfl (And.intro rfl (And.intro (by rw [fillF_length (tnO_length _) rfl (by omega)]; omega) ?_)); conv => whnf)
              | (refine set_fillC (by omega) (by omega) ?_; conv => whnf)
              | (refine set_fillF (ndO_length _) (by omega) rfl ?_; conv => whnf)
              | (refine set_fillF (tnO_length _) (by omega) rfl ?_; conv => whnf)
              | (refine And.intro (ond_fit (by omega) (Nat.le_of_ble_eq_true rfl)) ?_; conv => whnf)
              | (refine set_ond (by omega) (Nat.le_of_ble_eq_true rfl) ⟨_, rfl⟩ (fun _ _ _ _ => ?_); conv => whnf)
              | (refine get_oi_n (by omega) ?_; conv => whnf)
              | (refine get_ond_n (by omega) rfl ?_; conv => whnf)
              | (refine get_otn_n (by omega) rfl ?_; conv => whnf)
              | (refine takeN_in ?_; conv => whnf)
              | (refine And.intro (pureL_ints _ _) ?_; conv => whnf)
              | (refine And.intro (pureL_take _ _ _) ?_; conv => whnf)
              | (refine And.intro (pureL_cut _ _ _ _) ?_; conv => whnf)
              | (refine cut_ints ?_; conv => whnf)
              | (refine cut_marks ?_; conv => whnf)
              | (refine cut_all rfl (scalL_ints _ _) ?_; conv => whnf)
              | (refine cut_all (by simp only [List.length_map]; omega) (scalL_ints _ _) ?_; conv => whnf)
              | (refine append_int rfl rfl (by first | rfl | (simp only [List.length_take, turned_length]; omega)) (by omega) (Nat.le_of_ble_eq_true rfl) ?_; conv => whnf)
              | (refine sameNums_call ?_; conv => whnf)
              | (refine iStridesOf_call (by omega) ?_; conv => whnf)
              | (refine And.intro rfl (And.intro rfl (And.intro (by first | omega | (rw [List.length_map]; omega)) ?_)); conv => whnf)
              | (refine set_nat ?_ (by omega); conv => whnf)
              | (refine set_int ?_ (by omega); conv => whnf)
              | (refine set_bool ?_ (by omega); conv => whnf)
              | (refine set_force ?_; conv => whnf)
              | (refine get_bool0 (by omega) ?_; conv => whnf)
              | (refine And.intro (And.intro (Int.le_refl _) (And.intro (by kernel_rfl) (And.intro rfl (by kernel_rfl)))) (And.intro (And.intro (by omega) (And.intro (bytes_le (b := 1) rfl (by omega)) (by omega))) ?_); conv => whnf)
              | (refine And.intro (And.intro (by kernel_rfl) (And.intro rfl (Nat.le_of_ble_eq_true rfl))) ?_; conv => whnf)
              | (refine And.intro (And.intro (by kernel_rfl) (by kernel_rfl)) ?_; conv => whnf)
              | (refine And.intro (by kernel_rfl) ?_; conv => whnf)
              | (refine aIf_tt (by assumption) ?_; conv => whnf)
              | (refine aIf_ff (by assumption) ?_; conv => whnf)
              | refine aIf_eqt ?_
              | refine aIf_eqf ?_
              | refine aIf_not ?_
              | (refine aIf_bself ?_; conv => whnf)
              | (refine aIf_beself ?_; conv => whnf)
              | (refine aIf_iself ?_; conv => whnf)
              | (refine aIf_decself ?_; conv => whnf)
              | (refine aIf_dec (fun _ => ?_) (fun _ => ?_) <;> conv => whnf)
              | (refine aIf_beq (fun _ => ?_) (fun _ => ?_) <;> conv => whnf)
              | (refine aIf_bne (fun _ => ?_) (fun _ => ?_) <;> conv => whnf)
              | (refine aIf_bbne (fun _ => ?_) (fun _ => ?_) <;> conv => whnf)
              | (refine aIf_bbeq (fun _ => ?_) (fun _ => ?_) <;> conv => whnf)
              | (refine aIf_in (fun _ => ?_) (fun _ => ?_) <;> conv => whnf))
            refine sameNums_calln hpl.symm ?_
            conv => whnf
            repeat' (first
              | (refine plan_in2 (id := 7) [0, 1, 2, 3, 4, 5, 6, 7, 8, 9, 10, 11] (by kernel_rfl) (by kernel_rfl) ?_; conv => whnf)
              | (refine plan_in2 (id := 9) [0, 1, 2, 3, 4, 5, 6, 7, 8, 9, 10, 11, 12, 13, 14, 15, 16, 17, 18, 19, 20, 21, 22, 23, 24] (by kernel_rfl) (by kernel_rfl) ?_; conv => whnf)
              | (refine aIf_t ?_; conv => whnf)
              | (refine aIf_f ?_; conv => whnf)
              | (refine fun (_ : _ ≤ maxLen) => ?_; conv => whnf)
              | (refine get_nat0 (by omega) ?_; conv => whnf)
              | (refine get_int0 (by omega) ?_; conv => whnf)
              | (refine get_nat (by omega) ?_; conv => whnf)
              | (refine get_int (by omega) ?_; conv => whnf)
              | (refine aGet_in rfl ?_; conv => whnf)
              | (refine And.intro (And.intro (Int.le_refl _) (And.intro (by kernel_rfl) (And.intro rfl (by kernel_rfl)))) (And.intro (And.intro (by omega) (And.intro (bytes_le (b := 8) rfl (by omega)) (by omega))) ?_); conv => whnf)
              | (refine And.intro (by omega) ?_; conv => whnf)
              | (refine load_same ?_; conv => whnf)
              | (refine And.intro (by rw [List.length_map]; omega) ?_; conv => whnf)
              | (refine And.intro rfl (And.intro (List.cons_ne_nil _ _) ?_); conv => whnf)
              | (refine And.intro (Nat.le_of_ble_eq_true rfl) ?_; conv => whnf)
              | (refine orNone_call _ _ rfl rfl (by decide) (by first | rfl | omega) (by first | rfl | omega) (fun _ => ?_) (fun _ => ?_) <;> conv => whnf)
              | (refine orNone_call [_, _] _ rfl rfl (by decide) (by first | rfl | omega) (by first | rfl | omega) (fun _ => ?_) (fun _ => ?_) <;> conv => whnf)
              | (refine callG_t ?_; conv => whnf)
              | (refine copyNums_call (by omega) ?_; conv => whnf)
              | (refine axisOk_call ?_; conv => whnf)
              | (refine iTensorOk_call ?_; conv => whnf)
              | (refine And.intro (And.intro (Int.le_refl _) (And.intro (by kernel_rfl) (And.intro rfl (by kernel_rfl)))) (And.intro (And.intro (by omega) (And.intro (bytes_le (b := 24) rfl (by omega)) (by omega))) ?_); conv => whnf)
              | (refine And.intro (And.intro (Int.le_refl _) (And.intro (by kernel_rfl) (And.intro rfl (by kernel_rfl)))) (And.intro (And.intro (by omega) (And.intro (bytes_le (b := 48) rfl (by omega)) (by omega))) ?_); conv => whnf)
              | (refine And.intro rfl (And.intro rfl (And.intro (by rw [fillC_length (by omega)]; omega) ?_)); conv => whnf)
              | (refine And.intro rfl (And.intro rfl (And.intro (by rw [fillF_length (ndO_length _) rfl (by omega)]; omega) ?_)); conv => whnf)
              | (refine And.intro rfl (And.intro rfl (And.intro (by rw [fillF_length (tnO_length _) rfl (by omega)]; omega) ?_)); conv => whnf)
              | (refine set_fillC (by omega) (by omega) ?_; conv => whnf)
              | (refine set_fillF (ndO_length _) (by omega) rfl ?_; conv => whnf)
              | (refine set_fillF (tnO_length _) (by omega) rfl ?_; conv => whnf)
              | (refine And.intro (ond_fit (by omega) (Nat.le_of_ble_eq_true rfl)) ?_; conv => whnf)
              | (refine set_ond (by omega) (Nat.le_of_ble_eq_true rfl) ⟨_, rfl⟩ (fun _ _ _ _ => ?_); conv => whnf)
              | (refine get_oi_n (by omega) ?_; conv => whnf)
              | (refine get_ond_n (by omega) rfl ?_; conv => whnf)
              | (refine get_otn_n (by omega) rfl ?_; conv => whnf)
              | (refine takeN_in ?_; conv => whnf)
              | (refine And.intro (pureL_ints _ _) ?_; conv => whnf)
              | (refine And.intro (pureL_take _ _ _) ?_; conv => whnf)
              | (refine And.intro (pureL_cut _ _ _ _) ?_; conv => whnf)
              | (refine cut_ints ?_; conv => whnf)
              | (refine cut_marks ?_; conv => whnf)
              | (refine cut_all rfl (scalL_ints _ _) ?_; conv => whnf)
              | (refine cut_all (by simp only [List.length_map]; omega) (scalL_ints _ _) ?_; conv => whnf)
              | (refine append_int rfl rfl (by first | rfl | (simp only [List.length_take, turned_length]; omega)) (by omega) (Nat.le_of_ble_eq_true rfl) ?_; conv => whnf)
              | (refine sameNums_call ?_; conv => whnf)
              | (refine iStridesOf_call (by omega) ?_; conv => whnf)
              | (refine And.intro rfl (And.intro rfl (And.intro (by first | omega | (rw [List.length_map]; omega)) ?_)); conv => whnf)
              | (refine set_nat ?_ (by omega); conv => whnf)
              | (refine set_int ?_ (by omega); conv => whnf)
              | (refine set_bool ?_ (by omega); conv => whnf)
              | (refine set_force ?_; conv => whnf)
              | (refine get_bool0 (by omega) ?_; conv => whnf)
              | (refine And.intro (And.intro (Int.le_refl _) (And.intro (by kernel_rfl) (And.intro rfl (by kernel_rfl)))) (And.intro (And.intro (by omega) (And.intro (bytes_le (b := 1) rfl (by omega)) (by omega))) ?_); conv => whnf)
              | (refine And.intro (And.intro (by kernel_rfl) (And.intro rfl (Nat.le_of_ble_eq_true rfl))) ?_; conv => whnf)
              | (refine And.intro (And.intro (by kernel_rfl) (by kernel_rfl)) ?_; conv => whnf)
              | (refine And.intro (by kernel_rfl) ?_; conv => whnf)
              | (refine aIf_tt (by assumption) ?_; conv => whnf)
              | (refine aIf_ff (by assumption) ?_; conv => whnf)
              | refine aIf_eqt ?_
              | refine aIf_eqf ?_
              | refine aIf_not ?_
              | (refine aIf_bself ?_; conv => whnf)
              | (refine aIf_beself ?_; conv => whnf)
              | (refine aIf_iself ?_; conv => whnf)
              | (refine aIf_decself ?_; conv => whnf)
              | (refine aIf_dec (fun _ => ?_) (fun _ => ?_) <;> conv => whnf)
              | (refine aIf_beq (fun _ => ?_) (fun _ => ?_) <;> conv => whnf)
              | (refine aIf_bne (fun _ => ?_) (fun _ => ?_) <;> conv => whnf)
              | (refine aIf_bbne (fun _ => ?_) (fun _ => ?_) <;> conv => whnf)
              | (refine aIf_bbeq (fun _ => ?_) (fun _ => ?_) <;> conv => whnf)
              | (refine aIf_in (fun _ => ?_) (fun _ => ?_) <;> conv => whnf))
            all_goals (first | (exfalso; omega) | skip)
            have hsl2 : (ps.set a (IntKind.i64.wrap (ps.getD a 0 + xs.getD a 0))).length = xs.length := by rw [List.length_set]; exact hpl
            refine byTurns_call (A := bsA xs a) (B := bsB xs a (ps.getD a 0)) (n := bsN xs a) hA hB ⟨e1, e2, F.ab, hn⟩ ?_
            have hsh : ps.set a (IntKind.i64.wrap (ps.getD a 0 + xs.getD a 0)) = bsSh xs a (ps.getD a 0) := by
              rw [hw1]; unfold bsSh
              have e0 : ∀ v : Int, ps.set a v = xs.set a v := fun v => by
                conv => lhs; rw [← he]
                rw [List.set_set]
              exact e0 _
            conv => whnf
            repeat' (first
              | (refine plan_in2 (id := 7) [0, 1, 2, 3, 4, 5, 6, 7, 8, 9, 10, 11] (by kernel_rfl) (by kernel_rfl) ?_; conv => whnf)
              | (refine plan_in2 (id := 9) [0, 1, 2, 3, 4, 5, 6, 7, 8, 9, 10, 11, 12, 13, 14, 15, 16, 17, 18, 19, 20, 21, 22, 23, 24] (by kernel_rfl) (by kernel_rfl) ?_; conv => whnf)
              | (refine aIf_t ?_; conv => whnf)
              | (refine aIf_f ?_; conv => whnf)
              | (refine fun (_ : _ ≤ maxLen) => ?_; conv => whnf)
              | (refine get_nat0 (by omega) ?_; conv => whnf)
              | (refine get_int0 (by omega) ?_; conv => whnf)
              | (refine get_nat (by omega) ?_; conv => whnf)
              | (refine get_int (by omega) ?_; conv => whnf)
              | (refine aGet_in rfl ?_; conv => whnf)
              | (refine And.intro (And.intro (Int.le_refl _) (And.intro (by kernel_rfl) (And.intro rfl (by kernel_rfl)))) (And.intro (And.intro (by omega) (And.intro (bytes_le (b := 8) rfl (by omega)) (by omega))) ?_); conv => whnf)
              | (refine And.intro (by omega) ?_; conv => whnf)
              | (refine load_same ?_; conv => whnf)
              | (refine And.intro (by rw [List.length_map]; omega) ?_; conv => whnf)
              | (refine And.intro rfl (And.intro (List.cons_ne_nil _ _) ?_); conv => whnf)
              | (refine And.intro (Nat.le_of_ble_eq_true rfl) ?_; conv => whnf)
              | (refine orNone_call _ _ rfl rfl (by decide) (by first | rfl | omega) (by first | rfl | omega) (fun _ => ?_) (fun _ => ?_) <;> conv => whnf)
              | (refine orNone_call [_, _] _ rfl rfl (by decide) (by first | rfl | omega) (by first | rfl | omega) (fun _ => ?_) (fun _ => ?_) <;> conv => whnf)
              | (refine callG_t ?_; conv => whnf)
              | (refine copyNums_call (by omega) ?_; conv => whnf)
              | (refine axisOk_call ?_; conv => whnf)
              | (refine iTensorOk_call ?_; conv => whnf)
              | (refine And.intro (And.intro (Int.le_refl _) (And.intro (by kernel_rfl) (And.intro rfl (by kernel_rfl)))) (And.intro (And.intro (by omega) (And.intro (bytes_le (b := 24) rfl (by omega)) (by omega))) ?_); conv => whnf)
              | (refine And.intro (And.intro (Int.le_refl _) (And.intro (by kernel_rfl) (And.intro rfl (by kernel_rfl)))) (And.intro (And.intro (by omega) (And.intro (bytes_le (b := 48) rfl (by omega)) (by omega))) ?_); conv => whnf)
              | (refine And.intro rfl (And.intro rfl (And.intro (by rw [fillC_length (by omega)]; omega) ?_)); conv => whnf)
              | (refine And.intro rfl (And.intro rfl (And.intro (by rw [fillF_length (ndO_length _) rfl (by omega)]; omega) ?_)); conv => whnf)
              | (refine And.intro rfl (And.intro rfl (And.intro (by rw [fillF_length (tnO_length _) rfl (by omega)]; omega) ?_)); conv => whnf)
              | (refine set_fillC (by omega) (by omega) ?_; conv => whnf)
              | (refine set_fillF (ndO_length _) (by omega) rfl ?_; conv => whnf)
              | (refine set_fillF (tnO_length _) (by omega) rfl ?_; conv => whnf)
              | (refine And.intro (ond_fit (by omega) (Nat.le_of_ble_eq_true rfl)) ?_; conv => whnf)
              | (refine set_ond (by omega) (Nat.le_of_ble_eq_true rfl) ⟨_, rfl⟩ (fun _ _ _ _ => ?_); conv => whnf)
              | (refine get_oi_n (by omega) ?_; conv => whnf)
              | (refine get_ond_n (by omega) rfl ?_; conv => whnf)
              | (refine get_otn_n (by omega) rfl ?_; conv => whnf)
              | (refine takeN_in ?_; conv => whnf)
              | (refine And.intro (pureL_ints _ _) ?_; conv => whnf)
              | (refine And.intro (pureL_take _ _ _) ?_; conv => whnf)
              | (refine And.intro (pureL_cut _ _ _ _) ?_; conv => whnf)
              | (refine cut_ints ?_; conv => whnf)
              | (refine cut_marks ?_; conv => whnf)
              | (refine cut_all rfl (scalL_ints _ _) ?_; conv => whnf)
              | (refine cut_all (by simp only [List.length_map]; omega) (scalL_ints _ _) ?_; conv => whnf)
              | (refine append_int rfl rfl (by first | rfl | (simp only [List.length_take, turned_length]; omega)) (by omega) (Nat.le_of_ble_eq_true rfl) ?_; conv => whnf)
              | (refine sameNums_call ?_; conv => whnf)
              | (refine iStridesOf_call (by omega) ?_; conv => whnf)
              | (refine And.intro rfl (And.intro rfl (And.intro (by first | omega | (rw [List.length_map]; omega)) ?_)); conv => whnf)
              | (refine set_nat ?_ (by omega); conv => whnf)
              | (refine set_int ?_ (by omega); conv => whnf)
              | (refine set_bool ?_ (by omega); conv => whnf)
              | (refine set_force ?_; conv => whnf)
              | (refine get_bool0 (by omega) ?_; conv => whnf)
              | (refine And.intro (And.intro (Int.le_refl _) (And.intro (by kernel_rfl) (And.intro rfl (by kernel_rfl)))) (And.intro (And.intro (by omega) (And.intro (bytes_le (b := 1) rfl (by omega)) (by omega))) ?_); conv => whnf)
              | (refine And.intro (And.intro (by kernel_rfl) (And.intro rfl (Nat.le_of_ble_eq_true rfl))) ?_; conv => whnf)
              | (refine And.intro (And.intro (by kernel_rfl) (by kernel_rfl)) ?_; conv => whnf)
              | (refine And.intro (by kernel_rfl) ?_; conv => whnf)
              | (refine aIf_tt (by assumption) ?_; conv => whnf)
              | (refine aIf_ff (by assumption) ?_; conv => whnf)
              | refine aIf_eqt ?_
              | refine aIf_eqf ?_
              | refine aIf_not ?_
              | (refine aIf_bself ?_; conv => whnf)
              | (refine aIf_beself ?_; conv => whnf)
              | (refine aIf_iself ?_; conv => whnf)
              | (refine aIf_decself ?_; conv => whnf)
              | (refine aIf_dec (fun _ => ?_) (fun _ => ?_) <;> conv => whnf)
              | (refine aIf_beq (fun _ => ?_) (fun _ => ?_) <;> conv => whnf)
              | (refine aIf_bne (fun _ => ?_) (fun _ => ?_) <;> conv => whnf)
              | (refine aIf_bbne (fun _ => ?_) (fun _ => ?_) <;> conv => whnf)
              | (refine aIf_bbeq (fun _ => ?_) (fun _ => ?_) <;> conv => whnf)
              | (refine aIf_in (fun _ => ?_) (fun _ => ?_) <;> conv => whnf))
            · rename_i hT
              rw [hsh] at hT
              have hP : bsP xs zs ps qs (a : Int) := ⟨ht, hu, hi, by rw [Int.toNat_natCast]; exact he.symm, by
                have := size_in ((tensorOk_iff _ _).1 hT).1 (show a < (bsSh xs a (ps.getD a 0)).length by rw [bsSh_length]; exact ha)
                rw [Int.toNat_natCast]
                unfold bsSh at this
                rw [getD_set ha, if_pos rfl] at this
                exact this.2⟩
              have hM : bsM xs zs ps qs (a : Int) = (ps.set a (IntKind.i64.wrap (ps.getD a 0 + xs.getD a 0)), btL zs qs (bsA xs a) (bsB xs a (ps.getD a 0)) (bsN xs a), true) := by rw [bsM_t hP, hsh, (bs_told hP).2]
              refine retTB (hM := hM) ?_ ?_ ?_ ?_ ?_
              all_goals (first | exact rfl | decide | (simp; done))
            · rename_i hT
              have hC : ¬ bsP xs zs ps qs (a : Int) := fun h => by
                have := bs_told h
                rw [hsh, this.2] at hT
                exact Bool.false_ne_true (hT.symm.trans this.1)
              refine retTB (hM := bsM_f hC) ?_ ?_ ?_ ?_ ?_
              all_goals (first | exact rfl | decide | (simp; done))
          · have hC : ¬ bsP xs zs ps qs (a : Int) := fun h => he (by have := h.2.2.2.1; rw [Int.toNat_natCast] at this; exact this.symm)
            conv => whnf
            repeat' (first
              | (refine plan_in2 (id := 7) [0, 1, 2, 3, 4, 5, 6, 7, 8, 9, 10, 11] (by kernel_rfl) (by kernel_rfl) ?_; conv => whnf)
              | (refine plan_in2 (id := 9) [0, 1, 2, 3, 4, 5, 6, 7, 8, 9, 10, 11, 12, 13, 14, 15, 16, 17, 18, 19, 20, 21, 22, 23, 24] (by kernel_rfl) (by kernel_rfl) ?_; conv => whnf)
              | (refine aIf_t ?_; conv => whnf)
              | (refine aIf_f ?_; conv => whnf)
              | (refine fun (_ : _ ≤ maxLen) => ?_; conv => whnf)
              | (refine get_nat0 (by omega) ?_; conv => whnf)
              | (refine get_int0 (by omega) ?_; conv => whnf)
              | (refine get_nat (by omega) ?_; conv => whnf)
              | (refine get_int (by omega) ?_; conv => whnf)
              | (refine aGet_in rfl ?_; conv => whnf)
              | (refine And.intro (And.intro (Int.le_refl _) (And.intro (by kernel_rfl) (And.intro rfl (by kernel_rfl)))) (And.intro (And.intro (by omega) (And.intro (bytes_le (b := 8) rfl (by omega)) (by omega))) ?_); conv => whnf)
              | (refine And.intro (by omega) ?_; conv => whnf)
              | (refine load_same ?_; conv => whnf)
              | (refine And.intro (by rw [List.length_map]; omega) ?_; conv => whnf)
              | (refine And.intro rfl (And.intro (List.cons_ne_nil _ _) ?_); conv => whnf)
              | (refine And.intro (Nat.le_of_ble_eq_true rfl) ?_; conv => whnf)
              | (refine orNone_call _ _ rfl rfl (by decide) (by first | rfl | omega) (by first | rfl | omega) (fun _ => ?_) (fun _ => ?_) <;> conv => whnf)
              | (refine orNone_call [_, _] _ rfl rfl (by decide) (by first | rfl | omega) (by first | rfl | omega) (fun _ => ?_) (fun _ => ?_) <;> conv => whnf)
              | (refine callG_t ?_; conv => whnf)
              | (refine copyNums_call (by omega) ?_; conv => whnf)
              | (refine axisOk_call ?_; conv => whnf)
              | (refine iTensorOk_call ?_; conv => whnf)
              | (refine And.intro (And.intro (Int.le_refl _) (And.intro (by kernel_rfl) (And.intro rfl (by kernel_rfl)))) (And.intro (And.intro (by omega) (And.intro (bytes_le (b := 24) rfl (by omega)) (by omega))) ?_); conv => whnf)
              | (refine And.intro (And.intro (Int.le_refl _) (And.intro (by kernel_rfl) (And.intro rfl (by kernel_rfl)))) (And.intro (And.intro (by omega) (And.intro (bytes_le (b := 48) rfl (by omega)) (by omega))) ?_); conv => whnf)
              | (refine And.intro rfl (And.intro rfl (And.intro (by rw [fillC_length (by omega)]; omega) ?_)); conv => whnf)
              | (refine And.intro rfl (And.intro rfl (And.intro (by rw [fillF_length (ndO_length _) rfl (by omega)]; omega) ?_)); conv => whnf)
              | (refine And.intro rfl (And.intro rfl (And.intro (by rw [fillF_length (tnO_length _) rfl (by omega)]; omega) ?_)); conv => whnf)
              | (refine set_fillC (by omega) (by omega) ?_; conv => whnf)
              | (refine set_fillF (ndO_length _) (by omega) rfl ?_; conv => whnf)
              | (refine set_fillF (tnO_length _) (by omega) rfl ?_; conv => whnf)
              | (refine And.intro (ond_fit (by omega) (Nat.le_of_ble_eq_true rfl)) ?_; conv => whnf)
              | (refine set_ond (by omega) (Nat.le_of_ble_eq_true rfl) ⟨_, rfl⟩ (fun _ _ _ _ => ?_); conv => whnf)
              | (refine get_oi_n (by omega) ?_; conv => whnf)
              | (refine get_ond_n (by omega) rfl ?_; conv => whnf)
              | (refine get_otn_n (by omega) rfl ?_; conv => whnf)
              | (refine takeN_in ?_; conv => whnf)
              | (refine And.intro (pureL_ints _ _) ?_; conv => whnf)
              | (refine And.intro (pureL_take _ _ _) ?_; conv => whnf)
              | (refine And.intro (pureL_cut _ _ _ _) ?_; conv => whnf)
              | (refine cut_ints ?_; conv => whnf)
              | (refine cut_marks ?_; conv => whnf)
              | (refine cut_all rfl (scalL_ints _ _) ?_; conv => whnf)
              | (refine cut_all (by simp only [List.length_map]; omega) (scalL_ints _ _) ?_; conv => whnf)
              | (refine append_int rfl rfl (by first | rfl | (simp only [List.length_take, turned_length]; omega)) (by omega) (Nat.le_of_ble_eq_true rfl) ?_; conv => whnf)
              | (refine sameNums_call ?_; conv => whnf)
              | (refine iStridesOf_call (by omega) ?_; conv => whnf)
              | (refine And.intro rfl (And.intro rfl (And.intro (by first | omega | (rw [List.length_map]; omega)) ?_)); conv => whnf)
              | (refine set_nat ?_ (by omega); conv => whnf)
              | (refine set_int ?_ (by omega); conv => whnf)
              | (refine set_bool ?_ (by omega); conv => whnf)
              | (refine set_force ?_; conv => whnf)
              | (refine get_bool0 (by omega) ?_; conv => whnf)
              | (refine And.intro (And.intro (Int.le_refl _) (And.intro (by kernel_rfl) (And.intro rfl (by kernel_rfl)))) (And.intro (And.intro (by omega) (And.intro (bytes_le (b := 1) rfl (by omega)) (by omega))) ?_); conv => whnf)
              | (refine And.intro (And.intro (by kernel_rfl) (And.intro rfl (Nat.le_of_ble_eq_true rfl))) ?_; conv => whnf)
              | (refine And.intro (And.intro (by kernel_rfl) (by kernel_rfl)) ?_; conv => whnf)
              | (refine And.intro (by kernel_rfl) ?_; conv => whnf)
              | (refine aIf_tt (by assumption) ?_; conv => whnf)
              | (refine aIf_ff (by assumption) ?_; conv => whnf)
              | refine aIf_eqt ?_
              | refine aIf_eqf ?_
              | refine aIf_not ?_
              | (refine aIf_bself ?_; conv => whnf)
              | (refine aIf_beself ?_; conv => whnf)
              | (refine aIf_iself ?_; conv => whnf)
              | (refine aIf_decself ?_; conv => whnf)
              | (refine aIf_dec (fun _ => ?_) (fun _ => ?_) <;> conv => whnf)
              | (refine aIf_beq (fun _ => ?_) (fun _ => ?_) <;> conv => whnf)
              | (refine aIf_bne (fun _ => ?_) (fun _ => ?_) <;> conv => whnf)
              | (refine aIf_bbne (fun _ => ?_) (fun _ => ?_) <;> conv => whnf)
              | (refine aIf_bbeq (fun _ => ?_) (fun _ => ?_) <;> conv => whnf)
              | (refine aIf_in (fun _ => ?_) (fun _ => ?_) <;> conv => whnf))
            all_goals (first | (exfalso; omega) | skip)
            refine cut_all (by show xs.length * 1 = _; rw [List.length_map, List.length_set]; omega) (scalL_ints _ _) ?_
            conv => whnf
            repeat' (first
              | (refine plan_in2 (id := 7) [0, 1, 2, 3, 4, 5, 6, 7, 8, 9, 10, 11] (by kernel_rfl) (by kernel_rfl) ?_; conv => whnf)
              | (refine plan_in2 (id := 9) [0, 1, 2, 3, 4, 5, 6, 7, 8, 9, 10, 11, 12, 13, 14, 15, 16, 17, 18, 19, 20, 21, 22, 23, 24] (by kernel_rfl) (by kernel_rfl) ?_; conv => whnf)
              | (refine aIf_t ?_; conv => whnf)
              | (refine aIf_f ?_; conv => whnf)
              | (refine fun (_ : _ ≤ maxLen) => ?_; conv => whnf)
              | (refine get_nat0 (by omega) ?_; conv => whnf)
              | (refine get_int0 (by omega) ?_; conv => whnf)
              | (refine get_nat (by omega) ?_; conv => whnf)
              | (refine get_int (by omega) ?_; conv => whnf)
              | (refine aGet_in rfl ?_; conv => whnf)
              | (refine And.intro (And.intro (Int.le_refl _) (And.intro (by kernel_rfl) (And.intro rfl (by kernel_rfl)))) (And.intro (And.intro (by omega) (And.intro (bytes_le (b := 8) rfl (by omega)) (by omega))) ?_); conv => whnf)
              | (refine And.intro (by omega) ?_; conv => whnf)
              | (refine load_same ?_; conv => whnf)
              | (refine And.intro (by rw [List.length_map]; omega) ?_; conv => whnf)
              | (refine And.intro rfl (And.intro (List.cons_ne_nil _ _) ?_); conv => whnf)
              | (refine And.intro (Nat.le_of_ble_eq_true rfl) ?_; conv => whnf)
              | (refine orNone_call _ _ rfl rfl (by decide) (by first | rfl | omega) (by first | rfl | omega) (fun _ => ?_) (fun _ => ?_) <;> conv => whnf)
              | (refine orNone_call [_, _] _ rfl rfl (by decide) (by first | rfl | omega) (by first | rfl | omega) (fun _ => ?_) (fun _ => ?_) <;> conv => whnf)
              | (refine callG_t ?_; conv => whnf)
              | (refine copyNums_call (by omega) ?_; conv => whnf)
              | (refine axisOk_call ?_; conv => whnf)
              | (refine iTensorOk_call ?_; conv => whnf)
              | (refine And.intro (And.intro (Int.le_refl _) (And.intro (by kernel_rfl) (And.intro rfl (by kernel_rfl)))) (And.intro (And.intro (by omega) (And.intro (bytes_le (b := 24) rfl (by omega)) (by omega))) ?_); conv => whnf)
              | (refine And.intro (And.intro (Int.le_refl _) (And.intro (by kernel_rfl) (And.intro rfl (by kernel_rfl)))) (And.intro (And.intro (by omega) (And.intro (bytes_le (b := 48) rfl (by omega)) (by omega))) ?_); conv => whnf)
              | (refine And.intro rfl (And.intro rfl (And.intro (by rw [fillC_length (by omega)]; omega) ?_)); conv => whnf)
              | (refine And.intro rfl (And.intro rfl (And.intro (by rw [fillF_length (ndO_length _) rfl (by omega)]; omega) ?_)); conv => whnf)
              | (refine And.intro rfl (And.intro rfl (And.intro (by rw [fillF_length (tnO_length _) rfl (by omega)]; omega) ?_)); conv => whnf)
              | (refine set_fillC (by omega) (by omega) ?_; conv => whnf)
              | (refine set_fillF (ndO_length _) (by omega) rfl ?_; conv => whnf)
              | (refine set_fillF (tnO_length _) (by omega) rfl ?_; conv => whnf)
              | (refine And.intro (ond_fit (by omega) (Nat.le_of_ble_eq_true rfl)) ?_; conv => whnf)
              | (refine set_ond (by omega) (Nat.le_of_ble_eq_true rfl) ⟨_, rfl⟩ (fun _ _ _ _ => ?_); conv => whnf)
              | (refine get_oi_n (by omega) ?_; conv => whnf)
              | (refine get_ond_n (by omega) rfl ?_; conv => whnf)
              | (refine get_otn_n (by omega) rfl ?_; conv => whnf)
              | (refine takeN_in ?_; conv => whnf)
              | (refine And.intro (pureL_ints _ _) ?_; conv => whnf)
              | (refine And.intro (pureL_take _ _ _) ?_; conv => whnf)
              | (refine And.intro (pureL_cut _ _ _ _) ?_; conv => whnf)
              | (refine cut_ints ?_; conv => whnf)
              | (refine cut_marks ?_; conv => whnf)
              | (refine cut_all rfl (scalL_ints _ _) ?_; conv => whnf)
              | (refine cut_all (by simp only [List.length_map]; omega) (scalL_ints _ _) ?_; conv => whnf)
              | (refine append_int rfl rfl (by first | rfl | (simp only [List.length_take, turned_length]; omega)) (by omega) (Nat.le_of_ble_eq_true rfl) ?_; conv => whnf)
              | (refine sameNums_call ?_; conv => whnf)
              | (refine iStridesOf_call (by omega) ?_; conv => whnf)
              | (refine And.intro rfl (And.intro rfl (And.intro (by first | omega | (rw [List.length_map]; omega)) ?_)); conv => whnf)
              | (refine set_nat ?_ (by omega); conv => whnf)
              | (refine set_int ?_ (by omega); conv => whnf)
              | (refine set_bool ?_ (by omega); conv => whnf)
              | (refine set_force ?_; conv => whnf)
              | (refine get_bool0 (by omega) ?_; conv => whnf)
              | (refine And.intro (And.intro (Int.le_refl _) (And.intro (by kernel_rfl) (And.intro rfl (by kernel_rfl)))) (And.intro (And.intro (by omega) (And.intro (bytes_le (b := 1) rfl (by omega)) (by omega))) ?_); conv => whnf)
              | (refine And.intro (And.intro (by kernel_rfl) (And.intro rfl (Nat.le_of_ble_eq_true rfl))) ?_; conv => whnf)
              | (refine And.intro (And.intro (by kernel_rfl) (by kernel_rfl)) ?_; conv => whnf)
              | (refine And.intro (by kernel_rfl) ?_; conv => whnf)
              | (refine aIf_tt (by assumption) ?_; conv => whnf)
              | (refine aIf_ff (by assumption) ?_; conv => whnf)
              | refine aIf_eqt ?_
              | refine aIf_eqf ?_
              | refine aIf_not ?_
              | (refine aIf_bself ?_; conv => whnf)
              | (refine aIf_beself ?_; conv => whnf)
              | (refine aIf_iself ?_; conv => whnf)
              | (refine aIf_decself ?_; conv => whnf)
              | (refine aIf_dec (fun _ => ?_) (fun _ => ?_) <;> conv => whnf)
              | (refine aIf_beq (fun _ => ?_) (fun _ => ?_) <;> conv => whnf)
              | (refine aIf_bne (fun _ => ?_) (fun _ => ?_) <;> conv => whnf)
              | (refine aIf_bbne (fun _ => ?_) (fun _ => ?_) <;> conv => whnf)
              | (refine aIf_bbeq (fun _ => ?_) (fun _ => ?_) <;> conv => whnf)
              | (refine aIf_in (fun _ => ?_) (fun _ => ?_) <;> conv => whnf))
            refine sameNums_calln (by rw [List.length_set]) ?_
            conv => whnf
            repeat' (first
              | (refine plan_in2 (id := 7) [0, 1, 2, 3, 4, 5, 6, 7, 8, 9, 10, 11] (by kernel_rfl) (by kernel_rfl) ?_; conv => whnf)
              | (refine plan_in2 (id := 9) [0, 1, 2, 3, 4, 5, 6, 7, 8, 9, 10, 11, 12, 13, 14, 15, 16, 17, 18, 19, 20, 21, 22, 23, 24] (by kernel_rfl) (by kernel_rfl) ?_; conv => whnf)
              | (refine aIf_t ?_; conv => whnf)
              | (refine aIf_f ?_; conv => whnf)
              | (refine fun (_ : _ ≤ maxLen) => ?_; conv => whnf)
              | (refine get_nat0 (by omega) ?_; conv => whnf)
              | (refine get_int0 (by omega) ?_; conv => whnf)
              | (refine get_nat (by omega) ?_; conv => whnf)
              | (refine get_int (by omega) ?_; conv => whnf)
              | (refine aGet_in rfl ?_; conv => whnf)
              | (refine And.intro (And.intro (Int.le_refl _) (And.intro (by kernel_rfl) (And.intro rfl (by kernel_rfl)))) (And.intro (And.intro (by omega) (And.intro (bytes_le (b := 8) rfl (by omega)) (by omega))) ?_); conv => whnf)
              | (refine And.intro (by omega) ?_; conv => whnf)
              | (refine load_same ?_; conv => whnf)
              | (refine And.intro (by rw [List.length_map]; omega) ?_; conv => whnf)
              | (refine And.intro rfl (And.intro (List.cons_ne_nil _ _) ?_); conv => whnf)
              | (refine And.intro (Nat.le_of_ble_eq_true rfl) ?_; conv => whnf)
              | (refine orNone_call _ _ rfl rfl (by decide) (by first | rfl | omega) (by first | rfl | omega) (fun _ => ?_) (fun _ => ?_) <;> conv => whnf)
              | (refine orNone_call [_, _] _ rfl rfl (by decide) (by first | rfl | omega) (by first | rfl | omega) (fun _ => ?_) (fun _ => ?_) <;> conv => whnf)
              | (refine callG_t ?_; conv => whnf)
              | (refine copyNums_call (by omega) ?_; conv => whnf)
              | (refine axisOk_call ?_; conv => whnf)
              | (refine iTensorOk_call ?_; conv => whnf)
              | (refine And.intro (And.intro (Int.le_refl _) (And.intro (by kernel_rfl) (And.intro rfl (by kernel_rfl)))) (And.intro (And.intro (by omega) (And.intro (bytes_le (b := 24) rfl (by omega)) (by omega))) ?_); conv => whnf)
              | (refine And.intro (And.intro (Int.le_refl _) (And.intro (by kernel_rfl) (And.intro rfl (by kernel_rfl)))) (And.intro (And.intro (by omega) (And.intro (bytes_le (b := 48) rfl (by omega)) (by omega))) ?_); conv => whnf)
              | (refine And.intro rfl (And.intro rfl (And.intro (by rw [fillC_length (by omega)]; omega) ?_)); conv => whnf)
              | (refine And.intro rfl (And.intro rfl (And.intro (by rw [fillF_length (ndO_length _) rfl (by omega)]; omega) ?_)); conv => whnf)
              | (refine And.intro rfl (And.intro rfl (And.intro (by rw [fillF_length (tnO_length _) rfl (by omega)]; omega) ?_)); conv => whnf)
              | (refine set_fillC (by omega) (by omega) ?_; conv => whnf)
              | (refine set_fillF (ndO_length _) (by omega) rfl ?_; conv => whnf)
              | (refine set_fillF (tnO_length _) (by omega) rfl ?_; conv => whnf)
              | (refine And.intro (ond_fit (by omega) (Nat.le_of_ble_eq_true rfl)) ?_; conv => whnf)
              | (refine set_ond (by omega) (Nat.le_of_ble_eq_true rfl) ⟨_, rfl⟩ (fun _ _ _ _ => ?_); conv => whnf)
              | (refine get_oi_n (by omega) ?_; conv => whnf)
              | (refine get_ond_n (by omega) rfl ?_; conv => whnf)
              | (refine get_otn_n (by omega) rfl ?_; conv => whnf)
              | (refine takeN_in ?_; conv => whnf)
              | (refine And.intro (pureL_ints _ _) ?_; conv => whnf)
              | (refine And.intro (pureL_take _ _ _) ?_; conv => whnf)
              | (refine And.intro (pureL_cut _ _ _ _) ?_; conv => whnf)
              | (refine cut_ints ?_; conv => whnf)
              | (refine cut_marks ?_; conv => whnf)
              | (refine cut_all rfl (scalL_ints _ _) ?_; conv => whnf)
              | (refine cut_all (by simp only [List.length_map]; omega) (scalL_ints _ _) ?_; conv => whnf)
              | (refine append_int rfl rfl (by first | rfl | (simp only [List.length_take, turned_length]; omega)) (by omega) (Nat.le_of_ble_eq_true rfl) ?_; conv => whnf)
              | (refine sameNums_call ?_; conv => whnf)
              | (refine iStridesOf_call (by omega) ?_; conv => whnf)
              | (refine And.intro rfl (And.intro rfl (And.intro (by first | omega | (rw [List.length_map]; omega)) ?_)); conv => whnf)
              | (refine set_nat ?_ (by omega); conv => whnf)
              | (refine set_int ?_ (by omega); conv => whnf)
              | (refine set_bool ?_ (by omega); conv => whnf)
              | (refine set_force ?_; conv => whnf)
              | (refine get_bool0 (by omega) ?_; conv => whnf)
              | (refine And.intro (And.intro (Int.le_refl _) (And.intro (by kernel_rfl) (And.intro rfl (by kernel_rfl)))) (And.intro (And.intro (by omega) (And.intro (bytes_le (b := 1) rfl (by omega)) (by omega))) ?_); conv => whnf)
              | (refine And.intro (And.intro (by kernel_rfl) (And.intro rfl (Nat.le_of_ble_eq_true rfl))) ?_; conv => whnf)
              | (refine And.intro (And.intro (by kernel_rfl) (by kernel_rfl)) ?_; conv => whnf)
              | (refine And.intro (by kernel_rfl) ?_; conv => whnf)
              | (refine aIf_tt (by assumption) ?_; conv => whnf)
              | (refine aIf_ff (by assumption) ?_; conv => whnf)
              | refine aIf_eqt ?_
              | refine aIf_eqf ?_
              | refine aIf_not ?_
              | (refine aIf_bself ?_; conv => whnf)
              | (refine aIf_beself ?_; conv => whnf)
              | (refine aIf_iself ?_; conv => whnf)
              | (refine aIf_decself ?_; conv => whnf)
              | (refine aIf_dec (fun _ => ?_) (fun _ => ?_) <;> conv => whnf)
              | (refine aIf_beq (fun _ => ?_) (fun _ => ?_) <;> conv => whnf)
              | (refine aIf_bne (fun _ => ?_) (fun _ => ?_) <;> conv => whnf)
              | (refine aIf_bbne (fun _ => ?_) (fun _ => ?_) <;> conv => whnf)
              | (refine aIf_bbeq (fun _ => ?_) (fun _ => ?_) <;> conv => whnf)
              | (refine aIf_in (fun _ => ?_) (fun _ => ?_) <;> conv => whnf))
            all_goals (first | (exfalso; exact he (by assumption)) | skip)
            refine retTB (hM := bsM_f hC) ?_ ?_ ?_ ?_ ?_
            all_goals (first | exact rfl | decide | (simp; done))
        · have hC : ¬ bsP xs zs ps qs (a : Int) := fun h => hj (by have := congrArg List.length h.2.2.2.1; rw [List.length_set] at this; omega)
          conv => whnf
          repeat' (first
            | (refine plan_in2 (id := 7) [0, 1, 2, 3, 4, 5, 6, 7, 8, 9, 10, 11] (by kernel_rfl) (by kernel_rfl) ?_; conv => whnf)
            | (refine plan_in2 (id := 9) [0, 1, 2, 3, 4, 5, 6, 7, 8, 9, 10, 11, 12, 13, 14, 15, 16, 17, 18, 19, 20, 21, 22, 23, 24] (by kernel_rfl) (by kernel_rfl) ?_; conv => whnf)
            | (refine aIf_t ?_; conv => whnf)
            | (refine aIf_f ?_; conv => whnf)
            | (refine fun (_ : _ ≤ maxLen) => ?_; conv => whnf)
            | (refine get_nat0 (by omega) ?_; conv => whnf)
            | (refine get_int0 (by omega) ?_; conv => whnf)
            | (refine get_nat (by omega) ?_; conv => whnf)
            | (refine get_int (by omega) ?_; conv => whnf)
            | (refine aGet_in rfl ?_; conv => whnf)
            | (refine And.intro (And.intro (Int.le_refl _) (And.intro (by kernel_rfl) (And.intro rfl (by kernel_rfl)))) (And.intro (And.intro (by omega) (And.intro (bytes_le (b := 8) rfl (by omega)) (by omega))) ?_); conv => whnf)
            | (refine And.intro (by omega) ?_; conv => whnf)
            | (refine load_same ?_; conv => whnf)
            | (refine And.intro (by rw [List.length_map]; omega) ?_; conv => whnf)
            | (refine And.intro rfl (And.intro (List.cons_ne_nil _ _) ?_); conv => whnf)
            | (refine And.intro (Nat.le_of_ble_eq_true rfl) ?_; conv => whnf)
            | (refine orNone_call _ _ rfl rfl (by decide) (by first | rfl | omega) (by first | rfl | omega) (fun _ => ?_) (fun _ => ?_) <;> conv => whnf)
            | (refine orNone_call [_, _] _ rfl rfl (by decide) (by first | rfl | omega) (by first | rfl | omega) (fun _ => ?_) (fun _ => ?_) <;> conv => whnf)
            | (refine callG_t ?_; conv => whnf)
            | (refine copyNums_call (by omega) ?_; conv => whnf)
            | (refine axisOk_call ?_; conv => whnf)
            | (refine iTensorOk_call ?_; conv => whnf)
            | (refine And.intro (And.intro (Int.le_refl _) (And.intro (by kernel_rfl) (And.intro rfl (by kernel_rfl)))) (And.intro (And.intro (by omega) (And.intro (bytes_le (b := 24) rfl (by omega)) (by omega))) ?_); conv => whnf)
            | (refine And.intro (And.intro (Int.le_refl _) (And.intro (by kernel_rfl) (And.intro rfl (by kernel_rfl)))) (And.intro (And.intro (by omega) (And.intro (bytes_le (b := 48) rfl (by omega)) (by omega))) ?_); conv => whnf)
            | (refine And.intro rfl (And.intro rfl (And.intro (by rw [fillC_length (by omega)]; omega) ?_)); conv => whnf)
            | (refine And.intro rfl (And.intro rfl (And.intro (by rw [fillF_length (ndO_length _) rfl (by omega)]; omega) ?_)); conv => whnf)
            | (refine And.intro rfl (And.intro rfl (And.intro (by rw [fillF_length (tnO_length _) rfl (by omega)]; omega) ?_)); conv => whnf)
            | (refine set_fillC (by omega) (by omega) ?_; conv => whnf)
            | (refine set_fillF (ndO_length _) (by omega) rfl ?_; conv => whnf)
            | (refine set_fillF (tnO_length _) (by omega) rfl ?_; conv => whnf)
            | (refine And.intro (ond_fit (by omega) (Nat.le_of_ble_eq_true rfl)) ?_; conv => whnf)
            | (refine set_ond (by omega) (Nat.le_of_ble_eq_true rfl) ⟨_, rfl⟩ (fun _ _ _ _ => ?_); conv => whnf)
            | (refine get_oi_n (by omega) ?_; conv => whnf)
            | (refine get_ond_n (by omega) rfl ?_; conv => whnf)
            | (refine get_otn_n (by omega) rfl ?_; conv => whnf)
            | (refine takeN_in ?_; conv => whnf)
            | (refine And.intro (pureL_ints _ _) ?_; conv => whnf)
            | (refine And.intro (pureL_take _ _ _) ?_; conv => whnf)
            | (refine And.intro (pureL_cut _ _ _ _) ?_; conv => whnf)
            | (refine cut_ints ?_; conv => whnf)
            | (refine cut_marks ?_; conv => whnf)
            | (refine cut_all rfl (scalL_ints _ _) ?_; conv => whnf)
            | (refine cut_all (by simp only [List.length_map]; omega) (scalL_ints _ _) ?_; conv => whnf)
            | (refine append_int rfl rfl (by first | rfl | (simp only [List.length_take, turned_length]; omega)) (by omega) (Nat.le_of_ble_eq_true rfl) ?_; conv => whnf)
            | (refine sameNums_call ?_; conv => whnf)
            | (refine iStridesOf_call (by omega) ?_; conv => whnf)
            | (refine And.intro rfl (And.intro rfl (And.intro (by first | omega | (rw [List.length_map]; omega)) ?_)); conv => whnf)
            | (refine set_nat ?_ (by omega); conv => whnf)
            | (refine set_int ?_ (by omega); conv => whnf)
            | (refine set_bool ?_ (by omega); conv => whnf)
            | (refine set_force ?_; conv => whnf)
            | (refine get_bool0 (by omega) ?_; conv => whnf)
            | (refine And.intro (And.intro (Int.le_refl _) (And.intro (by kernel_rfl) (And.intro rfl (by kernel_rfl)))) (And.intro (And.intro (by omega) (And.intro (bytes_le (b := 1) rfl (by omega)) (by omega))) ?_); conv => whnf)
            | (refine And.intro (And.intro (by kernel_rfl) (And.intro rfl (Nat.le_of_ble_eq_true rfl))) ?_; conv => whnf)
            | (refine And.intro (And.intro (by kernel_rfl) (by kernel_rfl)) ?_; conv => whnf)
            | (refine And.intro (by kernel_rfl) ?_; conv => whnf)
            | (refine aIf_tt (by assumption) ?_; conv => whnf)
            | (refine aIf_ff (by assumption) ?_; conv => whnf)
            | refine aIf_eqt ?_
            | refine aIf_eqf ?_
            | refine aIf_not ?_
            | (refine aIf_bself ?_; conv => whnf)
            | (refine aIf_beself ?_; conv => whnf)
            | (refine aIf_iself ?_; conv => whnf)
            | (refine aIf_decself ?_; conv => whnf)
            | (refine aIf_dec (fun _ => ?_) (fun _ => ?_) <;> conv => whnf)
            | (refine aIf_beq (fun _ => ?_) (fun _ => ?_) <;> conv => whnf)
            | (refine aIf_bne (fun _ => ?_) (fun _ => ?_) <;> conv => whnf)
            | (refine aIf_bbne (fun _ => ?_) (fun _ => ?_) <;> conv => whnf)
            | (refine aIf_bbeq (fun _ => ?_) (fun _ => ?_) <;> conv => whnf)
            | (refine aIf_in (fun _ => ?_) (fun _ => ?_) <;> conv => whnf))
          all_goals (first | (exfalso; omega) | skip)
          refine retTB (hM := bsM_f hC) ?_ ?_ ?_ ?_ ?_
          all_goals (first | exact rfl | decide | (simp; done))
      · have hC : ¬ bsP xs zs ps qs i := fun h => hi h.2.2.1
        conv => whnf
        repeat' (first
          | (refine plan_in2 (id := 7) [0, 1, 2, 3, 4, 5, 6, 7, 8, 9, 10, 11] (by kernel_rfl) (by kernel_rfl) ?_; conv => whnf)
          | (refine plan_in2 (id := 9) [0, 1, 2, 3, 4, 5, 6, 7, 8, 9, 10, 11, 12, 13, 14, 15, 16, 17, 18, 19, 20, 21, 22, 23, 24] (by kernel_rfl) (by kernel_rfl) ?_; conv => whnf)
          | (refine aIf_t ?_; conv => whnf)
          | (refine aIf_f ?_; conv => whnf)
          | (refine fun (_ : _ ≤ maxLen) => ?_; conv => whnf)
          | (refine get_nat0 (by omega) ?_; conv => whnf)
          | (refine get_int0 (by omega) ?_; conv => whnf)
          | (refine get_nat (by omega) ?_; conv => whnf)
          | (refine get_int (by omega) ?_; conv => whnf)
          | (refine aGet_in rfl ?_; conv => whnf)
          | (refine And.intro (And.intro (Int.le_refl _) (And.intro (by kernel_rfl) (And.intro rfl (by kernel_rfl)))) (And.intro (And.intro (by omega) (And.intro (bytes_le (b := 8) rfl (by omega)) (by omega))) ?_); conv => whnf)
          | (refine And.intro (by omega) ?_; conv => whnf)
          | (refine load_same ?_; conv => whnf)
          | (refine And.intro (by rw [List.length_map]; omega) ?_; conv => whnf)
          | (refine And.intro rfl (And.intro (List.cons_ne_nil _ _) ?_); conv => whnf)
          | (refine And.intro (Nat.le_of_ble_eq_true rfl) ?_; conv => whnf)
          | (refine orNone_call _ _ rfl rfl (by decide) (by first | rfl | omega) (by first | rfl | omega) (fun _ => ?_) (fun _ => ?_) <;> conv => whnf)
          | (refine orNone_call [_, _] _ rfl rfl (by decide) (by first | rfl | omega) (by first | rfl | omega) (fun _ => ?_) (fun _ => ?_) <;> conv => whnf)
          | (refine callG_t ?_; conv => whnf)
          | (refine copyNums_call (by omega) ?_; conv => whnf)
          | (refine axisOk_call ?_; conv => whnf)
          | (refine iTensorOk_call ?_; conv => whnf)
          | (refine And.intro (And.intro (Int.le_refl _) (And.intro (by kernel_rfl) (And.intro rfl (by kernel_rfl)))) (And.intro (And.intro (by omega) (And.intro (bytes_le (b := 24) rfl (by omega)) (by omega))) ?_); conv => whnf)
          | (refine And.intro (And.intro (Int.le_refl _) (And.intro (by kernel_rfl) (And.intro rfl (by kernel_rfl)))) (And.intro (And.intro (by omega) (And.intro (bytes_le (b := 48) rfl (by omega)) (by omega))) ?_); conv => whnf)
          | (refine And.intro rfl (And.intro rfl (And.intro (by rw [fillC_length (by omega)]; omega) ?_)); conv => whnf)
          | (refine And.intro rfl (And.intro rfl (And.intro (by rw [fillF_length (ndO_length _) rfl (by omega)]; omega) ?_)); conv => whnf)
          | (refine And.intro rfl (And.intro rfl (And.intro (by rw [fillF_length (tnO_length _) rfl (by omega)]; omega) ?_)); conv => whnf)
          | (refine set_fillC (by omega) (by omega) ?_; conv => whnf)
          | (refine set_fillF (ndO_length _) (by omega) rfl ?_; conv => whnf)
          | (refine set_fillF (tnO_length _) (by omega) rfl ?_; conv => whnf)
          | (refine And.intro (ond_fit (by omega) (Nat.le_of_ble_eq_true rfl)) ?_; conv => whnf)
          | (refine set_ond (by omega) (Nat.le_of_ble_eq_true rfl) ⟨_, rfl⟩ (fun _ _ _ _ => ?_); conv => whnf)
          | (refine get_oi_n (by omega) ?_; conv => whnf)
          | (refine get_ond_n (by omega) rfl ?_; conv => whnf)
          | (refine get_otn_n (by omega) rfl ?_; conv => whnf)
          | (refine takeN_in ?_; conv => whnf)
          | (refine And.intro (pureL_ints _ _) ?_; conv => whnf)
          | (refine And.intro (pureL_take _ _ _) ?_; conv => whnf)
          | (refine And.intro (pureL_cut _ _ _ _) ?_; conv => whnf)
          | (refine cut_ints ?_; conv => whnf)
          | (refine cut_marks ?_; conv => whnf)
          | (refine cut_all rfl (scalL_ints _ _) ?_; conv => whnf)
          | (refine cut_all (by simp only [List.length_map]; omega) (scalL_ints _ _) ?_; conv => whnf)
          | (refine append_int rfl rfl (by first | rfl | (simp only [List.length_take, turned_length]; omega)) (by omega) (Nat.le_of_ble_eq_true rfl) ?_; conv => whnf)
          | (refine sameNums_call ?_; conv => whnf)
          | (refine iStridesOf_call (by omega) ?_; conv => whnf)
          | (refine And.intro rfl (And.intro rfl (And.intro (by first | omega | (rw [List.length_map]; omega)) ?_)); conv => whnf)
          | (refine set_nat ?_ (by omega); conv => whnf)
          | (refine set_int ?_ (by omega); conv => whnf)
          | (refine set_bool ?_ (by omega); conv => whnf)
          | (refine set_force ?_; conv => whnf)
          | (refine get_bool0 (by omega) ?_; conv => whnf)
          | (refine And.intro (And.intro (Int.le_refl _) (And.intro (by kernel_rfl) (And.intro rfl (by kernel_rfl)))) (And.intro (And.intro (by omega) (And.intro (bytes_le (b := 1) rfl (by omega)) (by omega))) ?_); conv => whnf)
          | (refine And.intro (And.intro (by kernel_rfl) (And.intro rfl (Nat.le_of_ble_eq_true rfl))) ?_; conv => whnf)
          | (refine And.intro (And.intro (by kernel_rfl) (by kernel_rfl)) ?_; conv => whnf)
          | (refine And.intro (by kernel_rfl) ?_; conv => whnf)
          | (refine aIf_tt (by assumption) ?_; conv => whnf)
          | (refine aIf_ff (by assumption) ?_; conv => whnf)
          | refine aIf_eqt ?_
          | refine aIf_eqf ?_
          | refine aIf_not ?_
          | (refine aIf_bself ?_; conv => whnf)
          | (refine aIf_beself ?_; conv => whnf)
          | (refine aIf_iself ?_; conv => whnf)
          | (refine aIf_decself ?_; conv => whnf)
          | (refine aIf_dec (fun _ => ?_) (fun _ => ?_) <;> conv => whnf)
          | (refine aIf_beq (fun _ => ?_) (fun _ => ?_) <;> conv => whnf)
          | (refine aIf_bne (fun _ => ?_) (fun _ => ?_) <;> conv => whnf)
          | (refine aIf_bbne (fun _ => ?_) (fun _ => ?_) <;> conv => whnf)
          | (refine aIf_bbeq (fun _ => ?_) (fun _ => ?_) <;> conv => whnf)
          | (refine aIf_in (fun _ => ?_) (fun _ => ?_) <;> conv => whnf))
        all_goals (first | (exfalso; omega) | skip)
        refine retTB (hM := bsM_f hC) ?_ ?_ ?_ ?_ ?_
        all_goals (first | exact rfl | decide | (simp; done))
    · have hC : ¬ bsP xs zs ps qs i := fun h => Bool.false_ne_true (hu.symm.trans h.2.1)
      conv => whnf
      repeat' (first
        | (refine plan_in2 (id := 7) [0, 1, 2, 3, 4, 5, 6, 7, 8, 9, 10, 11] (by kernel_rfl) (by kernel_rfl) ?_; conv => whnf)
        | (refine plan_in2 (id := 9) [0, 1, 2, 3, 4, 5, 6, 7, 8, 9, 10, 11, 12, 13, 14, 15, 16, 17, 18, 19, 20, 21, 22, 23, 24] (by kernel_rfl) (by kernel_rfl) ?_; conv => whnf)
        | (refine aIf_t ?_; conv => whnf)
        | (refine aIf_f ?_; conv => whnf)
        | (refine fun (_ : _ ≤ maxLen) => ?_; conv => whnf)
        | (refine get_nat0 (by omega) ?_; conv => whnf)
        | (refine get_int0 (by omega) ?_; conv => whnf)
        | (refine get_nat (by omega) ?_; conv => whnf)
        | (refine get_int (by omega) ?_; conv => whnf)
        | (refine aGet_in rfl ?_; conv => whnf)
        | (refine And.intro (And.intro (Int.le_refl _) (And.intro (by kernel_rfl) (And.intro rfl (by kernel_rfl)))) (And.intro (And.intro (by omega) (And.intro (bytes_le (b := 8) rfl (by omega)) (by omega))) ?_); conv => whnf)
        | (refine And.intro (by omega) ?_; conv => whnf)
        | (refine load_same ?_; conv => whnf)
        | (refine And.intro (by rw [List.length_map]; omega) ?_; conv => whnf)
        | (refine And.intro rfl (And.intro (List.cons_ne_nil _ _) ?_); conv => whnf)
        | (refine And.intro (Nat.le_of_ble_eq_true rfl) ?_; conv => whnf)
        | (refine orNone_call _ _ rfl rfl (by decide) (by first | rfl | omega) (by first | rfl | omega) (fun _ => ?_) (fun _ => ?_) <;> conv => whnf)
        | (refine orNone_call [_, _] _ rfl rfl (by decide) (by first | rfl | omega) (by first | rfl | omega) (fun _ => ?_) (fun _ => ?_) <;> conv => whnf)
        | (refine callG_t ?_; conv => whnf)
        | (refine copyNums_call (by omega) ?_; conv => whnf)
        | (refine axisOk_call ?_; conv => whnf)
        | (refine iTensorOk_call ?_; conv => whnf)
        | (refine And.intro (And.intro (Int.le_refl _) (And.intro (by kernel_rfl) (And.intro rfl (by kernel_rfl)))) (And.intro (And.intro (by omega) (And.intro (bytes_le (b := 24) rfl (by omega)) (by omega))) ?_); conv => whnf)
        | (refine And.intro (And.intro (Int.le_refl _) (And.intro (by kernel_rfl) (And.intro rfl (by kernel_rfl)))) (And.intro (And.intro (by omega) (And.intro (bytes_le (b := 48) rfl (by omega)) (by omega))) ?_); conv => whnf)
        | (refine And.intro rfl (And.intro rfl (And.intro (by rw [fillC_length (by omega)]; omega) ?_)); conv => whnf)
        | (refine And.intro rfl (And.intro rfl (And.intro (by rw [fillF_length (ndO_length _) rfl (by omega)]; omega) ?_)); conv => whnf)
        | (refine And.intro rfl (And.intro rfl (And.intro (by rw [fillF_length (tnO_length _) rfl (by omega)]; omega) ?_)); conv => whnf)
        | (refine set_fillC (by omega) (by omega) ?_; conv => whnf)
        | (refine set_fillF (ndO_length _) (by omega) rfl ?_; conv => whnf)
        | (refine set_fillF (tnO_length _) (by omega) rfl ?_; conv => whnf)
        | (refine And.intro (ond_fit (by omega) (Nat.le_of_ble_eq_true rfl)) ?_; conv => whnf)
        | (refine set_ond (by omega) (Nat.le_of_ble_eq_true rfl) ⟨_, rfl⟩ (fun _ _ _ _ => ?_); conv => whnf)
        | (refine get_oi_n (by omega) ?_; conv => whnf)
        | (refine get_ond_n (by omega) rfl ?_; conv => whnf)
        | (refine get_otn_n (by omega) rfl ?_; conv => whnf)
        | (refine takeN_in ?_; conv => whnf)
        | (refine And.intro (pureL_ints _ _) ?_; conv => whnf)
        | (refine And.intro (pureL_take _ _ _) ?_; conv => whnf)
        | (refine And.intro (pureL_cut _ _ _ _) ?_; conv => whnf)
        | (refine cut_ints ?_; conv => whnf)
        | (refine cut_marks ?_; conv => whnf)
        | (refine cut_all rfl (scalL_ints _ _) ?_; conv => whnf)
        | (refine cut_all (by simp only [List.length_map]; omega) (scalL_ints _ _) ?_; conv => whnf)
        | (refine append_int rfl rfl (by first | rfl | (simp only [List.length_take, turned_length]; omega)) (by omega) (Nat.le_of_ble_eq_true rfl) ?_; conv => whnf)
        | (refine sameNums_call ?_; conv => whnf)
        | (refine iStridesOf_call (by omega) ?_; conv => whnf)
        | (refine And.intro rfl (And.intro rfl (And.intro (by first | omega | (rw [List.length_map]; omega)) ?_)); conv => whnf)
        | (refine set_nat ?_ (by omega); conv => whnf)
        | (refine set_int ?_ (by omega); conv => whnf)
        | (refine set_bool ?_ (by omega); conv => whnf)
        | (refine set_force ?_; conv => whnf)
        | (refine get_bool0 (by omega) ?_; conv => whnf)
        | (refine And.intro (And.intro (Int.le_refl _) (And.intro (by kernel_rfl) (And.intro rfl (by kernel_rfl)))) (And.intro (And.intro (by omega) (And.intro (bytes_le (b := 1) rfl (by omega)) (by omega))) ?_); conv => whnf)
        | (refine And.intro (And.intro (by kernel_rfl) (And.intro rfl (Nat.le_of_ble_eq_true rfl))) ?_; conv => whnf)
        | (refine And.intro (And.intro (by kernel_rfl) (by kernel_rfl)) ?_; conv => whnf)
        | (refine And.intro (by kernel_rfl) ?_; conv => whnf)
        | (refine aIf_tt (by assumption) ?_; conv => whnf)
        | (refine aIf_ff (by assumption) ?_; conv => whnf)
        | refine aIf_eqt ?_
        | refine aIf_eqf ?_
        | refine aIf_not ?_
        | (refine aIf_bself ?_; conv => whnf)
        | (refine aIf_beself ?_; conv => whnf)
        | (refine aIf_iself ?_; conv => whnf)
        | (refine aIf_decself ?_; conv => whnf)
        | (refine aIf_dec (fun _ => ?_) (fun _ => ?_) <;> conv => whnf)
        | (refine aIf_beq (fun _ => ?_) (fun _ => ?_) <;> conv => whnf)
        | (refine aIf_bne (fun _ => ?_) (fun _ => ?_) <;> conv => whnf)
        | (refine aIf_bbne (fun _ => ?_) (fun _ => ?_) <;> conv => whnf)
        | (refine aIf_bbeq (fun _ => ?_) (fun _ => ?_) <;> conv => whnf)
        | (refine aIf_in (fun _ => ?_) (fun _ => ?_) <;> conv => whnf))
      refine retTB (hM := bsM_f hC) ?_ ?_ ?_ ?_ ?_
      all_goals (first | exact rfl | decide | (simp; done))
  · have hC : ¬ bsP xs zs ps qs i := fun h => Bool.false_ne_true (ht.symm.trans h.1)
    conv => whnf
    repeat' (first
      | (refine plan_in2 (id := 7) [0, 1, 2, 3, 4, 5, 6, 7, 8, 9, 10, 11] (by kernel_rfl) (by kernel_rfl) ?_; conv => whnf)
      | (refine plan_in2 (id := 9) [0, 1, 2, 3, 4, 5, 6, 7, 8, 9, 10, 11, 12, 13, 14, 15, 16, 17, 18, 19, 20, 21, 22, 23, 24] (by kernel_rfl) (by kernel_rfl) ?_; conv => whnf)
      | (refine aIf_t ?_; conv => whnf)
      | (refine aIf_f ?_; conv => whnf)
      | (refine fun (_ : _ ≤ maxLen) => ?_; conv => whnf)
      | (refine get_nat0 (by omega) ?_; conv => whnf)
      | (refine get_int0 (by omega) ?_; conv => whnf)
      | (refine get_nat (by omega) ?_; conv => whnf)
      | (refine get_int (by omega) ?_; conv => whnf)
      | (refine aGet_in rfl ?_; conv => whnf)
      | (refine And.intro (And.intro (Int.le_refl _) (And.intro (by kernel_rfl) (And.intro rfl (by kernel_rfl)))) (And.intro (And.intro (by omega) (And.intro (bytes_le (b := 8) rfl (by omega)) (by omega))) ?_); conv => whnf)
      | (refine And.intro (by omega) ?_; conv => whnf)
      | (refine load_same ?_; conv => whnf)
      | (refine And.intro (by rw [List.length_map]; omega) ?_; conv => whnf)
      | (refine And.intro rfl (And.intro (List.cons_ne_nil _ _) ?_); conv => whnf)
      | (refine And.intro (Nat.le_of_ble_eq_true rfl) ?_; conv => whnf)
      | (refine orNone_call _ _ rfl rfl (by decide) (by first | rfl | omega) (by first | rfl | omega) (fun _ => ?_) (fun _ => ?_) <;> conv => whnf)
      | (refine orNone_call [_, _] _ rfl rfl (by decide) (by first | rfl | omega) (by first | rfl | omega) (fun _ => ?_) (fun _ => ?_) <;> conv => whnf)
      | (refine callG_t ?_; conv => whnf)
      | (refine copyNums_call (by omega) ?_; conv => whnf)
      | (refine axisOk_call ?_; conv => whnf)
      | (refine iTensorOk_call ?_; conv => whnf)
      | (refine And.intro (And.intro (Int.le_refl _) (And.intro (by kernel_rfl) (And.intro rfl (by kernel_rfl)))) (And.intro (And.intro (by omega) (And.intro (bytes_le (b := 24) rfl (by omega)) (by omega))) ?_); conv => whnf)
      | (refine And.intro (And.intro (Int.le_refl _) (And.intro (by kernel_rfl) (And.intro rfl (by kernel_rfl)))) (And.intro (And.intro (by omega) (And.intro (bytes_le (b := 48) rfl (by omega)) (by omega))) ?_); conv => whnf)
      | (refine And.intro rfl (And.intro rfl (And.intro (by rw [fillC_length (by omega)]; omega) ?_)); conv => whnf)
      | (refine And.intro rfl (And.intro rfl (And.intro (by rw [fillF_length (ndO_length _) rfl (by omega)]; omega) ?_)); conv => whnf)
      | (refine And.intro rfl (And.intro rfl (And.intro (by rw [fillF_length (tnO_length _) rfl (by omega)]; omega) ?_)); conv => whnf)
      | (refine set_fillC (by omega) (by omega) ?_; conv => whnf)
      | (refine set_fillF (ndO_length _) (by omega) rfl ?_; conv => whnf)
      | (refine set_fillF (tnO_length _) (by omega) rfl ?_; conv => whnf)
      | (refine And.intro (ond_fit (by omega) (Nat.le_of_ble_eq_true rfl)) ?_; conv => whnf)
      | (refine set_ond (by omega) (Nat.le_of_ble_eq_true rfl) ⟨_, rfl⟩ (fun _ _ _ _ => ?_); conv => whnf)
      | (refine get_oi_n (by omega) ?_; conv => whnf)
      | (refine get_ond_n (by omega) rfl ?_; conv => whnf)
      | (refine get_otn_n (by omega) rfl ?_; conv => whnf)
      | (refine takeN_in ?_; conv => whnf)
      | (refine And.intro (pureL_ints _ _) ?_; conv => whnf)
      | (refine And.intro (pureL_take _ _ _) ?_; conv => whnf)
      | (refine And.intro (pureL_cut _ _ _ _) ?_; conv => whnf)
      | (refine cut_ints ?_; conv => whnf)
      | (refine cut_marks ?_; conv => whnf)
      | (refine cut_all rfl (scalL_ints _ _) ?_; conv => whnf)
      | (refine cut_all (by simp only [List.length_map]; omega) (scalL_ints _ _) ?_; conv => whnf)
      | (refine append_int rfl rfl (by first | rfl | (simp only [List.length_take, turned_length]; omega)) (by omega) (Nat.le_of_ble_eq_true rfl) ?_; conv => whnf)
      | (refine sameNums_call ?_; conv => whnf)
      | (refine iStridesOf_call (by omega) ?_; conv => whnf)
      | (refine And.intro rfl (And.intro rfl (And.intro (by first | omega | (rw [List.length_map]; omega)) ?_)); conv => whnf)
      | (refine set_nat ?_ (by omega); conv => whnf)
      | (refine set_int ?_ (by omega); conv => whnf)
      | (refine set_bool ?_ (by omega); conv => whnf)
      | (refine set_force ?_; conv => whnf)
      | (refine get_bool0 (by omega) ?_; conv => whnf)
      | (refine And.intro (And.intro (Int.le_refl _) (And.intro (by kernel_rfl) (And.intro rfl (by kernel_rfl)))) (And.intro (And.intro (by omega) (And.intro (bytes_le (b := 1) rfl (by omega)) (by omega))) ?_); conv => whnf)
      | (refine And.intro (And.intro (by kernel_rfl) (And.intro rfl (Nat.le_of_ble_eq_true rfl))) ?_; conv => whnf)
      | (refine And.intro (And.intro (by kernel_rfl) (by kernel_rfl)) ?_; conv => whnf)
      | (refine And.intro (by kernel_rfl) ?_; conv => whnf)
      | (refine aIf_tt (by assumption) ?_; conv => whnf)
      | (refine aIf_ff (by assumption) ?_; conv => whnf)
      | refine aIf_eqt ?_
      | refine aIf_eqf ?_
      | refine aIf_not ?_
      | (refine aIf_bself ?_; conv => whnf)
      | (refine aIf_beself ?_; conv => whnf)
      | (refine aIf_iself ?_; conv => whnf)
      | (refine aIf_decself ?_; conv => whnf)
      | (refine aIf_dec (fun _ => ?_) (fun _ => ?_) <;> conv => whnf)
      | (refine aIf_beq (fun _ => ?_) (fun _ => ?_) <;> conv => whnf)
      | (refine aIf_bne (fun _ => ?_) (fun _ => ?_) <;> conv => whnf)
      | (refine aIf_bbne (fun _ => ?_) (fun _ => ?_) <;> conv => whnf)
      | (refine aIf_bbeq (fun _ => ?_) (fun _ => ?_) <;> conv => whnf)
      | (refine aIf_in (fun _ => ?_) (fun _ => ?_) <;> conv => whnf))
    refine retTB (hM := bsM_f hC) ?_ ?_ ?_ ?_ ?_
    all_goals (first | exact rfl | decide | (simp; done))
theorem bsM_len (xs zs ps qs : List Int) (i : Int) : (bsM xs zs ps qs i).1.length ≤ 3 ∧ (bsM xs zs ps qs i).2.1.length ≤ 64 := by
  by_cases h : bsP xs zs ps qs i
  · obtain ⟨a, rfl⟩ : ∃ a : Nat, i = a := ⟨i.toNat, by have := h.2.2.1; omega⟩
    have ht := (bs_told h).1
    have hs := ((tensorOk_iff _ _).1 ht).1
    have hc := cnt64 hs (Nat.le_refl _)
    rw [bsM_t h]
    exact ⟨((shapeOk_iff _).1 hs).1, by show (bsL xs zs qs a (ps.getD a 0)).length ≤ 64; rw [bsL_length]; omega⟩
  · rw [bsM_f h]; exact ⟨Nat.zero_le _, Nat.zero_le _⟩
theorem iBesideOf_call {c d e f : Nat} {xs zs ps qs : List Int} {i : Int} {env : List AV} {rows : List Row} {ctr low : Nat} {k : AV → St → Prop} (hpre : True)
    (hk : k (.tup [.agg [.ref rows.length ctr 0 (bsM xs zs ps qs i).1.length, .ref (rows.length + 1) ctr 0 (bsM xs zs ps qs i).2.1.length], .bool (bsM xs zs ps qs i).2.2]) ⟨env, rows ++ [⟨ctr, 3, 1, (bsM xs zs ps qs i).1.map (.int .i64)⟩, ⟨ctr, 3, 1, (bsM xs zs ps qs i).2.1.map (.int .i64)⟩], ctr + 1, low⟩) :
    CallB Try.prog 19 ⟨env, rows, ctr, low⟩ [.agg [.sl c xs.length (xs.map (.int .i64)), .sl d zs.length (zs.map (.int .i64))], .agg [.sl e ps.length (ps.map (.int .i64)), .sl f qs.length (qs.map (.int .i64))], .int .i64 i] k := callTB_in iBesideOf_sound (c, xs, d, zs, e, ps, f, qs, i) hpre hk
end Go.Proofs.Ytegoncendpboiaa
