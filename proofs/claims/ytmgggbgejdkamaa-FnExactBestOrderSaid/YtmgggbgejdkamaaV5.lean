import Derived.Test.YtmgggbgejdkamaaM01x22
import Derived.Test.YtmgggbgejdkamaaM01x19
/- Chapter 5: the index sum of two factors, of the model. -/
namespace Go.Proofs.Ytmgggbgejdkamaa
set_option maxRecDepth 20000
open Go.RowKit Go.Am
set_option linter.unusedSimpArgs false
attribute [local irreducible] aPlan aGet aIf aLoop aCall RetB NextB CallB CallG aCut aSet aAppend
def prP (zs : List Int) (fs : List (List Int)) (o : List Int) (a b : Int) : Prop := (zs.length ≤ 5 ∧ fs.length ≤ 4 ∧ ∀ k, k < fs.length → (fs.getD k []).length ≤ 1000) ∧ (0 ≤ a ∧ a < fs.length) ∧ (0 ≤ b ∧ b < fs.length) ∧ o.length ≤ 1000
/-- A letter is needed: it comes, or is one of the first k factors but two. -/
def ndP (fs : List (List Int)) (o : List Int) (a b l : Int) (n : Nat) : Prop := l ∈ o ∨ ∃ k, k < n ∧ ((k : Int) ≠ a ∧ (k : Int) ≠ b) ∧ l ∈ fs.getD k []
instance (fs : List (List Int)) (o : List Int) (a b l : Int) (n : Nat) : Decidable (ndP fs o a b l n) := by unfold ndP; infer_instance
theorem ndP_0 {fs : List (List Int)} {o : List Int} {a b l : Int} : ndP fs o a b l 0 ↔ l ∈ o := by
  unfold ndP
  constructor
  · rintro (h | ⟨k, hk, -⟩)
    · exact h
    · exact absurd hk (Nat.not_lt_zero _)
  · exact .inl
theorem ndP_s {fs : List (List Int)} {o : List Int} {a b l : Int} {n : Nat} : ndP fs o a b l (n + 1) ↔ ndP fs o a b l n ∨ (((n : Int) ≠ a ∧ (n : Int) ≠ b) ∧ l ∈ fs.getD n []) := by
  unfold ndP
  constructor
  · rintro (h | ⟨k, h1, h2, h3⟩)
    · exact .inl (.inl h)
    · rcases Nat.lt_succ_iff_lt_or_eq.1 h1 with h4 | rfl
      · exact .inl (.inr ⟨k, h4, h2, h3⟩)
      · exact .inr ⟨h2, h3⟩
  · rintro ((h | ⟨k, h1, h2, h3⟩) | ⟨h2, h3⟩)
    · exact .inl h
    · exact .inr ⟨k, by omega, h2, h3⟩
    · exact .inr ⟨n, by omega, h2, h3⟩
theorem nd_t {fs : List (List Int)} {o : List Int} {a b l : Int} {n : Nat} (h : ndP fs o a b l n) : decide (ndP fs o a b l (n + 1)) = true := decide_eq_true (ndP_s.2 (.inl h))
theorem nd_in {fs : List (List Int)} {o : List Int} {a b l : Int} {n : Nat} (h : ¬ ndP fs o a b l n) (hab : (n : Int) ≠ a ∧ (n : Int) ≠ b) : decide (ndP fs o a b l (n + 1)) = decide (l ∈ fs.getD n []) := decide_eq_decide.2 ⟨fun h' => (ndP_s.1 h').elim (fun h' => absurd h' h) (fun h' => h'.2), fun h' => ndP_s.2 (.inr ⟨hab, h'⟩)⟩
theorem nd_f {fs : List (List Int)} {o : List Int} {a b l : Int} {n : Nat} (h : ¬ ndP fs o a b l n) (hab : (n : Int) = a ∨ (n : Int) = b) : decide (ndP fs o a b l (n + 1)) = false := decide_eq_false fun h' => (ndP_s.1 h').elim h fun h' => hab.elim h'.1.1 h'.1.2
set_option maxHeartbeats 32000000 in
theorem l5Pair_sound : Sound Try.prog 70 (fnIS (ι := IS × Int × Int) 3 22 (fun | ((c, zs, d, fs, e, o), a, b) => [.agg [.sl c zs.length (zs.map (.int .i64)), .sl d fs.length (fs.map (slI d)), .sl e o.length (o.map (.int .i64))], .int .i64 a, .int .i64 b]) (fun | ((_, zs, _, fs, _, o), a, b) => prP zs fs o a b) (fun | ((_, zs, _, fs, _, o), a, b) => pairM zs fs o a b)) := by
  refine sound_of Try.func70 rfl (enters_of Try.func70 (by kernel_rfl) (by kernel_rfl)) ?_
  rintro ⟨⟨c, zs, d, fs, q, o⟩, a, b⟩ hpre
  obtain ⟨⟨hz, hf, hl⟩, ha, hb, ho⟩ : prP zs fs o a b := hpre
  have hmax : maxLen = 9223372036854775807 := rfl
  have hla := hl a.toNat (by omega)
  have hlb := hl b.toNat (by omega)
  conv => whnf
  repeat' (first
    | (refine And.intro rfl (And.intro (List.cons_ne_nil _ _) ?_); conv => whnf)
    | (refine append_same ?_; conv => whnf)
    | (refine And.intro (by kernel_rfl) ?_; conv => whnf))
  refine share_in (id := 1) (.one 0 (.one 1 (.one 3 (.one 4 (.one 5 (.one 6 (.one 7 (.one 9 (.one 10 (.one 11 (.one 12 (.one 13 (.two 2 17 (.two 8 17 (.two 14 17 (.two 15 17 (.two 16 17 (.one 17 (.one 18 .nil)) (.one 16 (.one 18 .nil))) (.one 15 (.one 16 (.one 18 .nil)))) (.one 14 (.one 15 (.one 16 (.one 18 .nil))))) (.one 8 (.one 14 (.one 15 (.one 16 (.one 18 .nil)))))) (.one 2 (.one 8 (.one 14 (.one 15 (.one 16 (.one 18 .nil))))))))))))))))))) (⟨[.un, .int .i64 a, .int .i64 b, .ptr 0 1 0, .un, .un, .ptr 4 5 0, .ptr 8 9 0, .un, .un, .un, .un, .un, .un, .un, .un, .un, .un, .un, .un, .un, .un, .un, .un, .un, .un, .un, .un, .un, .un, .un, .un, .un, .un, .un, .un, .un, .un, .un, .un, .un, .un, .un, .un, .un, .un, .un, .un, .un, .un, .un, .un, .un, .un, .un, .un, .un, .un, .un, .un, .un, .un, .un, .un, .un, .un, .un, .un, .un, .un, .un, .un, .un, .un, .un, .un, .un, .un, .un, .un, .un, .un, .un, .un, .un, .un, .un, .un, .un, .un, .un, .un], [⟨1, 29, 3, [.sl c zs.length (zs.map (.int .i64)), .sl d fs.length (fs.map (slI d)), .sl q o.length (o.map (.int .i64))]⟩, ⟨2, 3, 1, []⟩, ⟨3, 22, 1, []⟩, ⟨4, 3, 1, []⟩, ⟨5, 29, 3, [.ref 1 2 0 0, .ref 2 3 0 0, .ref 3 4 0 0]⟩, ⟨6, 3, 1, zs.map (.int .i64)⟩, ⟨7, 22, 1, [ownI 3 (fs.getD a.toNat []), ownI 3 (fs.getD b.toNat [])]⟩, ⟨8, 3, 1, []⟩, ⟨9, 29, 3, [.ref 5 6 0 zs.length, .ref 6 7 0 2, .ref 7 8 0 0]⟩], 12, 0⟩) (by kernel_rfl) (by kernel_rfl) ?_ ?_
  · conv => whnf
    repeat' (first
      | (refine append_same ?_; conv => whnf))
    refine loop_u (ι := Nat) [false, true, true, true, false, false, true, true, true, false, false, false, false, false, false, false, false, false, false, false, false, false, false, false, false, false, false, false, false, false, false, false, false, false, false, false, false, false, false, false, false, false, false, false, false, false, false, false, false, false, false, false, false, false, false, false, false, false, false, false, false, false, false, false, false, false, false, false, false, false, false, false, false, false, false, false, false, false, false, false, false, false, false, false, false, false, false, false, false, false, false, false] (fun i => [(8, .int .i64 i)]) (fun i => [(8, [.ref 5 6 0 zs.length, .ref 6 7 0 2, .ref 7 8 0 (lfTo fs o a b i).length]), (7, (lfTo fs o a b i).map (.int .i64))]) (fun i => i ≤ zs.length) (fun i => zs.length - i) (0) (Nat.zero_le _) ?_ ?_
    · conv => whnf
      repeat' (first
        | exact trivial
        | exact rfl
        | exact pureL_ints _ _
        | exact Or.inl (And.intro rfl rfl)
        | exact le_ints rfl
        | exact pureL_ii _ _
        | refine Or.inr ?_
        | refine And.intro ?_ ?_
        | exact Nat.le_of_ble_eq_true rfl)
    · rintro i hi
      have hi : i ≤ zs.length := hi
      have hll := lfTo_len fs o a b i
      by_cases hlt : i < zs.length
      · by_cases hA : (i : Int) ∈ fs.getD a.toNat []
        · conv => whnf
          repeat' (first
            | (refine aIf_t ?_; conv => whnf)
            | (refine aIf_f ?_; conv => whnf)
            | (refine fun (_ : _ ≤ maxLen) => ?_; conv => whnf)
            | (refine aGet_in rfl ?_; conv => whnf)
            | (refine And.intro (by omega) ?_; conv => whnf)
            | (refine load_same ?_; conv => whnf)
            | (refine callG_t ?_; conv => whnf)
            | (refine append_same ?_; conv => whnf)
            | (refine get_ii (by omega) ?_; conv => whnf)
            | (refine l4Has_call trivial ?_; conv => whnf)
            | (refine takeN_in ?_; conv => whnf)
            | (refine And.intro (pureL_ints _ _) ?_; conv => whnf)
            | (refine set_force ?_; conv => whnf)
            | refine aIf_eqt ?_
            | refine aIf_not ?_
            | (refine aIf_dec (fun _ => ?_) (fun _ => ?_) <;> conv => whnf))
          all_goals (first | (exfalso; omega) | contradiction | skip)
          refine loop_u (ι := Nat) [false, true, true, true, false, false, true, true, true, true, true, false, false, false, false, false, false, false, false, false, false, false, false, false, false, false, false, false, false, false, false, false, false, false, false, false, false, false, false, false, false, false, false, false, false, false, false, false, false, false, false, false, false, false, false, false, false, false, false, false, false, false, false, false, false, false, false, false, false, false, false, false, false, false, false, false, false, false, false, false, false, false, false, false, false, false, false, false, false, false, false, false] (fun k => [(9, .bool (decide (ndP fs o a b i k))), (10, .int .i64 k)]) (fun _ => []) (fun k => k ≤ fs.length) (fun k => fs.length - k) (0) (Nat.zero_le _) ?_ ?_
          · have e0 : decide ((i : Int) ∈ o) = decide (ndP fs o a b i 0) := decide_eq_decide.2 ndP_0.symm
            rw [← e0]
            conv => whnf
            repeat' (first
              | exact trivial
              | exact rfl
              | exact pureL_ints _ _
              | exact Or.inl (And.intro rfl rfl)
              | exact le_ints rfl
              | exact pureL_ii _ _
              | refine Or.inr ?_
              | refine And.intro ?_ ?_
              | exact Nat.le_of_ble_eq_true rfl)
          · rintro k hk
            have hk : k ≤ fs.length := hk
            by_cases hkl : k < fs.length
            · by_cases hn : ndP fs o a b i k
              · have e := nd_t hn
                conv => whnf
                repeat' (first
                  | (refine aIf_t ?_; conv => whnf)
                  | (refine aIf_f ?_; conv => whnf)
                  | (refine fun (_ : _ ≤ maxLen) => ?_; conv => whnf)
                  | (refine aGet_in rfl ?_; conv => whnf)
                  | (refine And.intro (by omega) ?_; conv => whnf)
                  | (refine callG_t ?_; conv => whnf)
                  | (refine append_same ?_; conv => whnf)
                  | (refine get_ii_n (by omega) ?_; conv => whnf)
                  | (refine l4Has_call trivial ?_; conv => whnf)
                  | (refine And.intro (pureL_ints _ _) ?_; conv => whnf)
                  | (refine append_int rfl rfl (by first | rfl | (simp only [List.length_take, turned_length]; omega)) (by omega) (Nat.le_of_ble_eq_true rfl) ?_; conv => whnf)
                  | (refine set_force ?_; conv => whnf)
                  | refine aIf_eqt ?_
                  | refine aIf_eqf ?_
                  | refine aIf_not ?_
                  | (refine aIf_dec (fun _ => ?_) (fun _ => ?_) <;> conv => whnf))
                all_goals (first | (exfalso; omega) | contradiction | skip)
                refine next_u (k + 1) (show fs.length - (k + 1) < fs.length - k by omega) (by exact (by omega : k + 1 ≤ fs.length)) ?_
                rw [e]
                conv => whnf
                repeat' (first
                  | exact trivial
                  | exact rfl
                  | exact pureL_ints _ _
                  | exact Or.inl (And.intro rfl rfl)
                  | exact le_ints rfl
                  | exact pureL_ii _ _
                  | refine Or.inr ?_
                  | refine And.intro ?_ ?_
                  | exact Nat.le_of_ble_eq_true rfl
                  | exact int_eq (by rw [IntWalk.i64_in _ (by omega)] <;> omega))
              · by_cases hka : (k : Int) = a
                · have e := nd_f hn (.inl hka)
                  conv => whnf
                  repeat' (first
                    | (refine aIf_t ?_; conv => whnf)
                    | (refine aIf_f ?_; conv => whnf)
                    | (refine fun (_ : _ ≤ maxLen) => ?_; conv => whnf)
                    | (refine aGet_in rfl ?_; conv => whnf)
                    | (refine And.intro (by omega) ?_; conv => whnf)
                    | (refine callG_t ?_; conv => whnf)
                    | (refine append_same ?_; conv => whnf)
                    | (refine get_ii_n (by omega) ?_; conv => whnf)
                    | (refine l4Has_call trivial ?_; conv => whnf)
                    | (refine append_int rfl rfl (by first | rfl | (simp only [List.length_take, turned_length]; omega)) (by omega) (Nat.le_of_ble_eq_true rfl) ?_; conv => whnf)
                    | (refine set_force ?_; conv => whnf)
                    | refine aIf_eqt ?_
                    | refine aIf_eqf ?_
                    | refine aIf_not ?_
                    | (refine aIf_dec (fun _ => ?_) (fun _ => ?_) <;> conv => whnf))
                  all_goals (first | (exfalso; omega) | contradiction | skip)
                  refine next_u (k + 1) (show fs.length - (k + 1) < fs.length - k by omega) (by exact (by omega : k + 1 ≤ fs.length)) ?_
                  rw [e]
                  conv => whnf
                  repeat' (first
                    | exact trivial
                    | exact rfl
                    | exact pureL_ints _ _
                    | exact Or.inl (And.intro rfl rfl)
                    | exact le_ints rfl
                    | exact pureL_ii _ _
                    | refine Or.inr ?_
                    | refine And.intro ?_ ?_
                    | exact Nat.le_of_ble_eq_true rfl
                    | exact int_eq (by rw [IntWalk.i64_in _ (by omega)] <;> omega))
                · by_cases hkb : (k : Int) = b
                  · have e := nd_f hn (.inr hkb)
                    conv => whnf
                    repeat' (first
                      | (refine aIf_t ?_; conv => whnf)
                      | (refine aIf_f ?_; conv => whnf)
                      | (refine fun (_ : _ ≤ maxLen) => ?_; conv => whnf)
                      | (refine aGet_in rfl ?_; conv => whnf)
                      | (refine And.intro (by omega) ?_; conv => whnf)
                      | (refine callG_t ?_; conv => whnf)
                      | (refine append_same ?_; conv => whnf)
                      | (refine get_ii_n (by omega) ?_; conv => whnf)
                      | (refine l4Has_call trivial ?_; conv => whnf)
                      | (refine append_int rfl rfl (by first | rfl | (simp only [List.length_take, turned_length]; omega)) (by omega) (Nat.le_of_ble_eq_true rfl) ?_; conv => whnf)
                      | (refine set_force ?_; conv => whnf)
                      | refine aIf_eqt ?_
                      | refine aIf_eqf ?_
                      | refine aIf_not ?_
                      | (refine aIf_dec (fun _ => ?_) (fun _ => ?_) <;> conv => whnf))
                    all_goals (first | (exfalso; omega) | contradiction | skip)
                    refine next_u (k + 1) (show fs.length - (k + 1) < fs.length - k by omega) (by exact (by omega : k + 1 ≤ fs.length)) ?_
                    rw [e]
                    conv => whnf
                    repeat' (first
                      | exact trivial
                      | exact rfl
                      | exact pureL_ints _ _
                      | exact Or.inl (And.intro rfl rfl)
                      | exact le_ints rfl
                      | exact pureL_ii _ _
                      | refine Or.inr ?_
                      | refine And.intro ?_ ?_
                      | exact Nat.le_of_ble_eq_true rfl
                      | exact int_eq (by rw [IntWalk.i64_in _ (by omega)] <;> omega))
                  · have e := nd_in hn ⟨hka, hkb⟩
                    conv => whnf
                    repeat' (first
                      | (refine aIf_t ?_; conv => whnf)
                      | (refine aIf_f ?_; conv => whnf)
                      | (refine fun (_ : _ ≤ maxLen) => ?_; conv => whnf)
                      | (refine aGet_in rfl ?_; conv => whnf)
                      | (refine And.intro (by omega) ?_; conv => whnf)
                      | (refine callG_t ?_; conv => whnf)
                      | (refine append_same ?_; conv => whnf)
                      | (refine get_ii_n (by omega) ?_; conv => whnf)
                      | (refine l4Has_call trivial ?_; conv => whnf)
                      | (refine And.intro (pureL_ints _ _) ?_; conv => whnf)
                      | (refine append_int rfl rfl (by first | rfl | (simp only [List.length_take, turned_length]; omega)) (by omega) (Nat.le_of_ble_eq_true rfl) ?_; conv => whnf)
                      | (refine set_force ?_; conv => whnf)
                      | refine aIf_eqt ?_
                      | refine aIf_eqf ?_
                      | refine aIf_not ?_
                      | (refine aIf_dec (fun _ => ?_) (fun _ => ?_) <;> conv => whnf))
                    all_goals (first | (exfalso; omega) | contradiction | skip)
                    refine next_u (k + 1) (show fs.length - (k + 1) < fs.length - k by omega) (by exact (by omega : k + 1 ≤ fs.length)) ?_
                    rw [e]
                    conv => whnf
                    repeat' (first
                      | exact trivial
                      | exact rfl
                      | exact pureL_ints _ _
                      | exact Or.inl (And.intro rfl rfl)
                      | exact le_ints rfl
                      | exact pureL_ii _ _
                      | refine Or.inr ?_
                      | refine And.intro ?_ ?_
                      | exact Nat.le_of_ble_eq_true rfl
                      | exact int_eq (by rw [IntWalk.i64_in _ (by omega)] <;> omega))
            · have he : k = fs.length := by omega
              by_cases hn : ndP fs o a b i k
              · have e := lfTo_t (fs := fs) (o := o) (a := a) (b := b) (i := i) ⟨.inl hA, by rw [he] at hn; exact hn⟩
                conv => whnf
                repeat' (first
                  | (refine aIf_t ?_; conv => whnf)
                  | (refine aIf_f ?_; conv => whnf)
                  | (refine fun (_ : _ ≤ maxLen) => ?_; conv => whnf)
                  | (refine aGet_in rfl ?_; conv => whnf)
                  | (refine And.intro (by omega) ?_; conv => whnf)
                  | (refine And.intro (Nat.le_of_ble_eq_true rfl) ?_; conv => whnf)
                  | (refine callG_t ?_; conv => whnf)
                  | (refine append_same ?_; conv => whnf)
                  | (refine get_ii_n (by omega) ?_; conv => whnf)
                  | (refine l4Has_call trivial ?_; conv => whnf)
                  | (refine append_int rfl rfl (by first | rfl | (simp only [List.length_take, turned_length]; omega)) (by omega) (Nat.le_of_ble_eq_true rfl) ?_; conv => whnf)
                  | (refine set_force ?_; conv => whnf)
                  | (refine And.intro (And.intro (by kernel_rfl) (And.intro rfl (Nat.le_of_ble_eq_true rfl))) ?_; conv => whnf)
                  | (refine And.intro (by kernel_rfl) ?_; conv => whnf)
                  | refine aIf_eqt ?_
                  | refine aIf_eqf ?_
                  | refine aIf_not ?_
                  | (refine aIf_dec (fun _ => ?_) (fun _ => ?_) <;> conv => whnf))
                all_goals (first | (exfalso; omega) | contradiction | skip)
                refine next_u (i + 1) (show zs.length - (i + 1) < zs.length - i by omega) (by exact (by omega : i + 1 ≤ zs.length)) ?_
                rw [e]
                conv => whnf
                repeat' (first
                  | exact trivial
                  | exact rfl
                  | exact pureL_ints _ _
                  | exact Or.inl (And.intro rfl rfl)
                  | exact le_ints rfl
                  | exact pureL_ii _ _
                  | refine Or.inr ?_
                  | refine And.intro ?_ ?_
                  | exact Nat.le_of_ble_eq_true rfl
                  | exact List.length_append
                  | exact int_eq (by rw [IntWalk.i64_in _ (by omega)] <;> omega))
              · have e := lfTo_f (fs := fs) (o := o) (a := a) (b := b) (i := i) (fun h => hn (by rw [he]; exact h.2))
                conv => whnf
                repeat' (first
                  | (refine aIf_t ?_; conv => whnf)
                  | (refine aIf_f ?_; conv => whnf)
                  | (refine fun (_ : _ ≤ maxLen) => ?_; conv => whnf)
                  | (refine aGet_in rfl ?_; conv => whnf)
                  | (refine And.intro (by omega) ?_; conv => whnf)
                  | (refine And.intro (Nat.le_of_ble_eq_true rfl) ?_; conv => whnf)
                  | (refine callG_t ?_; conv => whnf)
                  | (refine append_same ?_; conv => whnf)
                  | (refine get_ii_n (by omega) ?_; conv => whnf)
                  | (refine l4Has_call trivial ?_; conv => whnf)
                  | (refine append_int rfl rfl (by first | rfl | (simp only [List.length_take, turned_length]; omega)) (by omega) (Nat.le_of_ble_eq_true rfl) ?_; conv => whnf)
                  | (refine set_force ?_; conv => whnf)
                  | (refine And.intro (And.intro (by kernel_rfl) (And.intro rfl (Nat.le_of_ble_eq_true rfl))) ?_; conv => whnf)
                  | (refine And.intro (by kernel_rfl) ?_; conv => whnf)
                  | refine aIf_eqt ?_
                  | refine aIf_eqf ?_
                  | refine aIf_not ?_
                  | (refine aIf_dec (fun _ => ?_) (fun _ => ?_) <;> conv => whnf))
                all_goals (first | (exfalso; omega) | contradiction | skip)
                refine next_u (i + 1) (show zs.length - (i + 1) < zs.length - i by omega) (by exact (by omega : i + 1 ≤ zs.length)) ?_
                rw [e]
                conv => whnf
                repeat' (first
                  | exact trivial
                  | exact rfl
                  | exact pureL_ints _ _
                  | exact Or.inl (And.intro rfl rfl)
                  | exact le_ints rfl
                  | exact pureL_ii _ _
                  | refine Or.inr ?_
                  | refine And.intro ?_ ?_
                  | exact Nat.le_of_ble_eq_true rfl
                  | exact int_eq (by rw [IntWalk.i64_in _ (by omega)] <;> omega))
        · by_cases hB : (i : Int) ∈ fs.getD b.toNat []
          · conv => whnf
            repeat' (first
              | (refine aIf_t ?_; conv => whnf)
              | (refine aIf_f ?_; conv => whnf)
              | (refine fun (_ : _ ≤ maxLen) => ?_; conv => whnf)
              | (refine aGet_in rfl ?_; conv => whnf)
              | (refine And.intro (by omega) ?_; conv => whnf)
              | (refine load_same ?_; conv => whnf)
              | (refine callG_t ?_; conv => whnf)
              | (refine append_same ?_; conv => whnf)
              | (refine get_ii (by omega) ?_; conv => whnf)
              | (refine l4Has_call trivial ?_; conv => whnf)
              | (refine takeN_in ?_; conv => whnf)
              | (refine And.intro (pureL_ints _ _) ?_; conv => whnf)
              | (refine set_force ?_; conv => whnf)
              | refine aIf_eqt ?_
              | refine aIf_not ?_
              | (refine aIf_dec (fun _ => ?_) (fun _ => ?_) <;> conv => whnf))
            all_goals (first | (exfalso; omega) | contradiction | skip)
            refine loop_u (ι := Nat) [false, true, true, true, false, false, true, true, true, true, true, false, false, false, false, false, false, false, false, false, false, false, false, false, false, false, false, false, false, false, false, false, false, false, false, false, false, false, false, false, false, false, false, false, false, false, false, false, false, false, false, false, false, false, false, false, false, false, false, false, false, false, false, false, false, false, false, false, false, false, false, false, false, false, false, false, false, false, false, false, false, false, false, false, false, false, false, false, false, false, false, false] (fun k => [(9, .bool (decide (ndP fs o a b i k))), (10, .int .i64 k)]) (fun _ => []) (fun k => k ≤ fs.length) (fun k => fs.length - k) (0) (Nat.zero_le _) ?_ ?_
            · have e0 : decide ((i : Int) ∈ o) = decide (ndP fs o a b i 0) := decide_eq_decide.2 ndP_0.symm
              rw [← e0]
              conv => whnf
              repeat' (first
                | exact trivial
                | exact rfl
                | exact pureL_ints _ _
                | exact Or.inl (And.intro rfl rfl)
                | exact le_ints rfl
                | exact pureL_ii _ _
                | refine Or.inr ?_
                | refine And.intro ?_ ?_
                | exact Nat.le_of_ble_eq_true rfl)
            · rintro k hk
              have hk : k ≤ fs.length := hk
              by_cases hkl : k < fs.length
              · by_cases hn : ndP fs o a b i k
                · have e := nd_t hn
                  conv => whnf
                  repeat' (first
                    | (refine aIf_t ?_; conv => whnf)
                    | (refine aIf_f ?_; conv => whnf)
                    | (refine fun (_ : _ ≤ maxLen) => ?_; conv => whnf)
                    | (refine aGet_in rfl ?_; conv => whnf)
                    | (refine And.intro (by omega) ?_; conv => whnf)
                    | (refine callG_t ?_; conv => whnf)
                    | (refine append_same ?_; conv => whnf)
                    | (refine get_ii_n (by omega) ?_; conv => whnf)
                    | (refine l4Has_call trivial ?_; conv => whnf)
                    | (refine And.intro (pureL_ints _ _) ?_; conv => whnf)
                    | (refine append_int rfl rfl (by first | rfl | (simp only [List.length_take, turned_length]; omega)) (by omega) (Nat.le_of_ble_eq_true rfl) ?_; conv => whnf)
                    | (refine set_force ?_; conv => whnf)
                    | refine aIf_eqt ?_
                    | refine aIf_eqf ?_
                    | refine aIf_not ?_
                    | (refine aIf_dec (fun _ => ?_) (fun _ => ?_) <;> conv => whnf))
                  all_goals (first | (exfalso; omega) | contradiction | skip)
                  refine next_u (k + 1) (show fs.length - (k + 1) < fs.length - k by omega) (by exact (by omega : k + 1 ≤ fs.length)) ?_
                  rw [e]
                  conv => whnf
                  repeat' (first
                    | exact trivial
                    | exact rfl
                    | exact pureL_ints _ _
                    | exact Or.inl (And.intro rfl rfl)
                    | exact le_ints rfl
                    | exact pureL_ii _ _
                    | refine Or.inr ?_
                    | refine And.intro ?_ ?_
                    | exact Nat.le_of_ble_eq_true rfl
                    | exact int_eq (by rw [IntWalk.i64_in _ (by omega)] <;> omega))
                · by_cases hka : (k : Int) = a
                  · have e := nd_f hn (.inl hka)
                    conv => whnf
                    repeat' (first
                      | (refine aIf_t ?_; conv => whnf)
                      | (refine aIf_f ?_; conv => whnf)
                      | (refine fun (_ : _ ≤ maxLen) => ?_; conv => whnf)
                      | (refine aGet_in rfl ?_; conv => whnf)
                      | (refine And.intro (by omega) ?_; conv => whnf)
                      | (refine callG_t ?_; conv => whnf)
                      | (refine append_same ?_; conv => whnf)
                      | (refine get_ii_n (by omega) ?_; conv => whnf)
                      | (refine l4Has_call trivial ?_; conv => whnf)
                      | (refine append_int rfl rfl (by first | rfl | (simp only [List.length_take, turned_length]; omega)) (by omega) (Nat.le_of_ble_eq_true rfl) ?_; conv => whnf)
                      | (refine set_force ?_; conv => whnf)
                      | refine aIf_eqt ?_
                      | refine aIf_eqf ?_
                      | refine aIf_not ?_
                      | (refine aIf_dec (fun _ => ?_) (fun _ => ?_) <;> conv => whnf))
                    all_goals (first | (exfalso; omega) | contradiction | skip)
                    refine next_u (k + 1) (show fs.length - (k + 1) < fs.length - k by omega) (by exact (by omega : k + 1 ≤ fs.length)) ?_
                    rw [e]
                    conv => whnf
                    repeat' (first
                      | exact trivial
                      | exact rfl
                      | exact pureL_ints _ _
                      | exact Or.inl (And.intro rfl rfl)
                      | exact le_ints rfl
                      | exact pureL_ii _ _
                      | refine Or.inr ?_
                      | refine And.intro ?_ ?_
                      | exact Nat.le_of_ble_eq_true rfl
                      | exact int_eq (by rw [IntWalk.i64_in _ (by omega)] <;> omega))
                  · by_cases hkb : (k : Int) = b
                    · have e := nd_f hn (.inr hkb)
                      conv => whnf
                      repeat' (first
                        | (refine aIf_t ?_; conv => whnf)
                        | (refine aIf_f ?_; conv => whnf)
                        | (refine fun (_ : _ ≤ maxLen) => ?_; conv => whnf)
                        | (refine aGet_in rfl ?_; conv => whnf)
                        | (refine And.intro (by omega) ?_; conv => whnf)
                        | (refine callG_t ?_; conv => whnf)
                        | (refine append_same ?_; conv => whnf)
                        | (refine get_ii_n (by omega) ?_; conv => whnf)
                        | (refine l4Has_call trivial ?_; conv => whnf)
                        | (refine append_int rfl rfl (by first | rfl | (simp only [List.length_take, turned_length]; omega)) (by omega) (Nat.le_of_ble_eq_true rfl) ?_; conv => whnf)
                        | (refine set_force ?_; conv => whnf)
                        | refine aIf_eqt ?_
                        | refine aIf_eqf ?_
                        | refine aIf_not ?_
                        | (refine aIf_dec (fun _ => ?_) (fun _ => ?_) <;> conv => whnf))
                      all_goals (first | (exfalso; omega) | contradiction | skip)
                      refine next_u (k + 1) (show fs.length - (k + 1) < fs.length - k by omega) (by exact (by omega : k + 1 ≤ fs.length)) ?_
                      rw [e]
                      conv => whnf
                      repeat' (first
                        | exact trivial
                        | exact rfl
                        | exact pureL_ints _ _
                        | exact Or.inl (And.intro rfl rfl)
                        | exact le_ints rfl
                        | exact pureL_ii _ _
                        | refine Or.inr ?_
                        | refine And.intro ?_ ?_
                        | exact Nat.le_of_ble_eq_true rfl
                        | exact int_eq (by rw [IntWalk.i64_in _ (by omega)] <;> omega))
                    · have e := nd_in hn ⟨hka, hkb⟩
                      conv => whnf
                      repeat' (first
                        | (refine aIf_t ?_; conv => whnf)
                        | (refine aIf_f ?_; conv => whnf)
                        | (refine fun (_ : _ ≤ maxLen) => ?_; conv => whnf)
                        | (refine aGet_in rfl ?_; conv => whnf)
                        | (refine And.intro (by omega) ?_; conv => whnf)
                        | (refine callG_t ?_; conv => whnf)
                        | (refine append_same ?_; conv => whnf)
                        | (refine get_ii_n (by omega) ?_; conv => whnf)
                        | (refine l4Has_call trivial ?_; conv => whnf)
                        | (refine And.intro (pureL_ints _ _) ?_; conv => whnf)
                        | (refine append_int rfl rfl (by first | rfl | (simp only [List.length_take, turned_length]; omega)) (by omega) (Nat.le_of_ble_eq_true rfl) ?_; conv => whnf)
                        | (refine set_force ?_; conv => whnf)
                        | refine aIf_eqt ?_
                        | refine aIf_eqf ?_
                        | refine aIf_not ?_
                        | (refine aIf_dec (fun _ => ?_) (fun _ => ?_) <;> conv => whnf))
                      all_goals (first | (exfalso; omega) | contradiction | skip)
                      refine next_u (k + 1) (show fs.length - (k + 1) < fs.length - k by omega) (by exact (by omega : k + 1 ≤ fs.length)) ?_
                      rw [e]
                      conv => whnf
                      repeat' (first
                        | exact trivial
                        | exact rfl
                        | exact pureL_ints _ _
                        | exact Or.inl (And.intro rfl rfl)
                        | exact le_ints rfl
                        | exact pureL_ii _ _
                        | refine Or.inr ?_
                        | refine And.intro ?_ ?_
                        | exact Nat.le_of_ble_eq_true rfl
                        | exact int_eq (by rw [IntWalk.i64_in _ (by omega)] <;> omega))
              · have he : k = fs.length := by omega
                by_cases hn : ndP fs o a b i k
                · have e := lfTo_t (fs := fs) (o := o) (a := a) (b := b) (i := i) ⟨.inr hB, by rw [he] at hn; exact hn⟩
                  conv => whnf
                  repeat' (first
                    | (refine aIf_t ?_; conv => whnf)
                    | (refine aIf_f ?_; conv => whnf)
                    | (refine fun (_ : _ ≤ maxLen) => ?_; conv => whnf)
                    | (refine aGet_in rfl ?_; conv => whnf)
                    | (refine And.intro (by omega) ?_; conv => whnf)
                    | (refine And.intro (Nat.le_of_ble_eq_true rfl) ?_; conv => whnf)
                    | (refine callG_t ?_; conv => whnf)
                    | (refine append_same ?_; conv => whnf)
                    | (refine get_ii_n (by omega) ?_; conv => whnf)
                    | (refine l4Has_call trivial ?_; conv => whnf)
                    | (refine append_int rfl rfl (by first | rfl | (simp only [List.length_take, turned_length]; omega)) (by omega) (Nat.le_of_ble_eq_true rfl) ?_; conv => whnf)
                    | (refine set_force ?_; conv => whnf)
                    | (refine And.intro (And.intro (by kernel_rfl) (And.intro rfl (Nat.le_of_ble_eq_true rfl))) ?_; conv => whnf)
                    | (refine And.intro (by kernel_rfl) ?_; conv => whnf)
                    | refine aIf_eqt ?_
                    | refine aIf_eqf ?_
                    | refine aIf_not ?_
                    | (refine aIf_dec (fun _ => ?_) (fun _ => ?_) <;> conv => whnf))
                  all_goals (first | (exfalso; omega) | contradiction | skip)
                  refine next_u (i + 1) (show zs.length - (i + 1) < zs.length - i by omega) (by exact (by omega : i + 1 ≤ zs.length)) ?_
                  rw [e]
                  conv => whnf
                  repeat' (first
                    | exact trivial
                    | exact rfl
                    | exact pureL_ints _ _
                    | exact Or.inl (And.intro rfl rfl)
                    | exact le_ints rfl
                    | exact pureL_ii _ _
                    | refine Or.inr ?_
                    | refine And.intro ?_ ?_
                    | exact Nat.le_of_ble_eq_true rfl
                    | exact List.length_append
                    | exact int_eq (by rw [IntWalk.i64_in _ (by omega)] <;> omega))
                · have e := lfTo_f (fs := fs) (o := o) (a := a) (b := b) (i := i) (fun h => hn (by rw [he]; exact h.2))
                  conv => whnf
                  repeat' (first
                    | (refine aIf_t ?_; conv => whnf)
                    | (refine aIf_f ?_; conv => whnf)
                    | (refine fun (_ : _ ≤ maxLen) => ?_; conv => whnf)
                    | (refine aGet_in rfl ?_; conv => whnf)
                    | (refine And.intro (by omega) ?_; conv => whnf)
                    | (refine And.intro (Nat.le_of_ble_eq_true rfl) ?_; conv => whnf)
                    | (refine callG_t ?_; conv => whnf)
                    | (refine append_same ?_; conv => whnf)
                    | (refine get_ii_n (by omega) ?_; conv => whnf)
                    | (refine l4Has_call trivial ?_; conv => whnf)
                    | (refine append_int rfl rfl (by first | rfl | (simp only [List.length_take, turned_length]; omega)) (by omega) (Nat.le_of_ble_eq_true rfl) ?_; conv => whnf)
                    | (refine set_force ?_; conv => whnf)
                    | (refine And.intro (And.intro (by kernel_rfl) (And.intro rfl (Nat.le_of_ble_eq_true rfl))) ?_; conv => whnf)
                    | (refine And.intro (by kernel_rfl) ?_; conv => whnf)
                    | refine aIf_eqt ?_
                    | refine aIf_eqf ?_
                    | refine aIf_not ?_
                    | (refine aIf_dec (fun _ => ?_) (fun _ => ?_) <;> conv => whnf))
                  all_goals (first | (exfalso; omega) | contradiction | skip)
                  refine next_u (i + 1) (show zs.length - (i + 1) < zs.length - i by omega) (by exact (by omega : i + 1 ≤ zs.length)) ?_
                  rw [e]
                  conv => whnf
                  repeat' (first
                    | exact trivial
                    | exact rfl
                    | exact pureL_ints _ _
                    | exact Or.inl (And.intro rfl rfl)
                    | exact le_ints rfl
                    | exact pureL_ii _ _
                    | refine Or.inr ?_
                    | refine And.intro ?_ ?_
                    | exact Nat.le_of_ble_eq_true rfl
                    | exact int_eq (by rw [IntWalk.i64_in _ (by omega)] <;> omega))
          · have e := lfTo_f (fs := fs) (o := o) (a := a) (b := b) (i := i) (fun h => h.1.elim hA hB)
            conv => whnf
            repeat' (first
              | (refine aIf_t ?_; conv => whnf)
              | (refine aIf_f ?_; conv => whnf)
              | (refine fun (_ : _ ≤ maxLen) => ?_; conv => whnf)
              | (refine aGet_in rfl ?_; conv => whnf)
              | (refine And.intro (by omega) ?_; conv => whnf)
              | (refine load_same ?_; conv => whnf)
              | (refine callG_t ?_; conv => whnf)
              | (refine append_same ?_; conv => whnf)
              | (refine get_ii (by omega) ?_; conv => whnf)
              | (refine l4Has_call trivial ?_; conv => whnf)
              | (refine takeN_in ?_; conv => whnf)
              | (refine And.intro (pureL_ints _ _) ?_; conv => whnf)
              | (refine set_force ?_; conv => whnf)
              | refine aIf_eqt ?_
              | refine aIf_not ?_
              | (refine aIf_dec (fun _ => ?_) (fun _ => ?_) <;> conv => whnf))
            all_goals (first | (exfalso; omega) | contradiction | skip)
            refine next_u (i + 1) (show zs.length - (i + 1) < zs.length - i by omega) (by exact (by omega : i + 1 ≤ zs.length)) ?_
            rw [e]
            conv => whnf
            repeat' (first
              | exact trivial
              | exact rfl
              | exact pureL_ints _ _
              | exact Or.inl (And.intro rfl rfl)
              | exact le_ints rfl
              | exact pureL_ii _ _
              | refine Or.inr ?_
              | refine And.intro ?_ ?_
              | exact Nat.le_of_ble_eq_true rfl
              | exact int_eq (by rw [IntWalk.i64_in _ (by omega)] <;> omega))
      · have he : i = zs.length := by omega
        subst he
        conv => whnf
        repeat' (first
          | (refine aIf_t ?_; conv => whnf)
          | (refine aIf_f ?_; conv => whnf)
          | (refine fun (_ : _ ≤ maxLen) => ?_; conv => whnf)
          | (refine aGet_in rfl ?_; conv => whnf)
          | (refine And.intro (by omega) ?_; conv => whnf)
          | (refine load_same ?_; conv => whnf)
          | (refine And.intro (Nat.le_of_ble_eq_true rfl) ?_; conv => whnf)
          | (refine callG_t ?_; conv => whnf)
          | (refine append_same ?_; conv => whnf)
          | (refine get_ii_n (by omega) ?_; conv => whnf)
          | (refine l4Has_call trivial ?_; conv => whnf)
          | (refine takeN_in ?_; conv => whnf)
          | (refine set_force ?_; conv => whnf)
          | (refine And.intro (by kernel_rfl) ?_; conv => whnf)
          | refine aIf_eqt ?_
          | refine aIf_not ?_
          | (refine aIf_dec (fun _ => ?_) (fun _ => ?_) <;> conv => whnf))
        all_goals (first | (exfalso; omega) | contradiction | skip)
        exact retIS (M := pairM zs fs o a b) rfl (by decide) (by decide) (by decide) rfl rfl rfl rfl rfl rfl
  · skip
    conv => whnf
    repeat' (first
      | (refine fork_in ?_ ?_ <;> conv => whnf)
      | (refine aGet_in rfl ?_; conv => whnf)
      | (refine And.intro (by omega) ?_; conv => whnf)
      | (refine And.intro (Nat.le_of_ble_eq_true rfl) ?_; conv => whnf)
      | (refine l2Nums_call (by omega) ?_; conv => whnf)
      | (refine get_ii (by omega) ?_; conv => whnf)
      | (refine And.intro (pureL_ints _ _) ?_; conv => whnf)
      | (refine set_force ?_; conv => whnf)
      | (refine And.intro (And.intro (by kernel_rfl) (And.intro rfl (Nat.le_of_ble_eq_true rfl))) ?_; conv => whnf)
      | (refine And.intro (by kernel_rfl) ?_; conv => whnf))
    · skip
      refine to_close 8 0 6 _ _ 1 3 _ _ rfl rfl rfl (by decide) (Nat.zero_le _) (by decide) (by simp) ?_
      refine to_force [false, false, false, false, false, false, false, false, true, false, false, false, false, true] ?_
      conv => whnf
      refine to_close 8 1 7 _ _ 1 3 _ _ rfl rfl rfl (by decide) (Nat.zero_le _) (by decide) (by simp) ?_
      refine to_force [false, false, false, false, false, false, false, false, true, false, false, false, false, true] ?_
      conv => whnf
      refine to_swap 6 8 [false, false, false, false, false, false, false, false, false, false, false, false, false, true] _ _ rfl rfl (by decide) (Nat.zero_le _) (Nat.zero_le _) ?_
      refine to_force [false, false, false, false, false, false, true, false, false, false, false, false, false, true] ?_
      conv => whnf
      refine to_swap 7 9 [false, false, false, false, false, false, false, false, false, false, false, false, false, true] _ _ rfl rfl (by decide) (Nat.zero_le _) (Nat.zero_le _) ?_
      refine to_force [false, false, false, false, false, false, true, false, false, false, false, false, false, true] ?_
      conv => whnf
      refine to_swap 8 13 [false, false, false, false, false, false, false, false, true] _ _ rfl rfl (by decide) (Nat.zero_le _) (Nat.zero_le _) ?_
      refine to_force [false, false, false, false, false, false, true, false, true] ?_
      conv => whnf
      refine St.le.to ?_
      conv => whnf
      repeat' (first
        | exact trivial
        | exact rfl
        | exact pureL_ints _ _
        | exact Or.inl (And.intro rfl rfl)
        | exact le_ints rfl
        | exact pureL_ii _ _
        | refine Or.inr ?_
        | refine And.intro ?_ ?_
        | exact Nat.le_of_ble_eq_true rfl)
    · skip
      refine to_close 8 0 6 _ _ 1 3 _ _ rfl rfl rfl (by decide) (Nat.zero_le _) (by decide) (by simp) ?_
      refine to_force [false, false, false, false, false, false, false, false, true, false, false, false, true] ?_
      conv => whnf
      refine to_close 8 1 7 _ _ 1 3 _ _ rfl rfl rfl (by decide) (Nat.zero_le _) (by decide) (by simp) ?_
      refine to_force [false, false, false, false, false, false, false, false, true, false, false, false, true] ?_
      conv => whnf
      refine to_swap 6 8 [false, false, false, false, false, false, false, false, false, false, false, false, true] _ _ rfl rfl (by decide) (Nat.zero_le _) (Nat.zero_le _) ?_
      refine to_force [false, false, false, false, false, false, true, false, false, false, false, false, true] ?_
      conv => whnf
      refine to_swap 7 13 [false, false, false, false, false, false, false, false, false, false, false, false, true] _ _ rfl rfl (by decide) (Nat.zero_le _) (Nat.zero_le _) ?_
      refine to_force [false, false, false, false, false, false, true, false, false, false, false, false, true] ?_
      conv => whnf
      refine to_swap 8 12 [false, false, false, false, false, false, false, false, true] _ _ rfl rfl (by decide) (Nat.zero_le _) (Nat.zero_le _) ?_
      refine to_force [false, false, false, false, false, false, true, false, true] ?_
      conv => whnf
      refine St.le.to ?_
      conv => whnf
      repeat' (first
        | exact trivial
        | exact rfl
        | exact pureL_ints _ _
        | exact Or.inl (And.intro rfl rfl)
        | exact le_ints rfl
        | exact pureL_ii _ _
        | refine Or.inr ?_
        | refine And.intro ?_ ?_
        | exact Nat.le_of_ble_eq_true rfl)
    · skip
      refine to_close 12 0 6 _ _ 1 3 _ _ rfl rfl rfl (by decide) (Nat.zero_le _) (by decide) (by simp) ?_
      refine to_force [false, false, false, false, false, false, false, false, false, false, false, true, true] ?_
      conv => whnf
      refine to_close 12 1 7 _ _ 1 3 _ _ rfl rfl rfl (by decide) (Nat.zero_le _) (by decide) (by simp) ?_
      refine to_force [false, false, false, false, false, false, false, false, false, false, false, true, true] ?_
      conv => whnf
      refine to_swap 6 12 [false, false, false, false, false, false, false, false, false, false, false, true] _ _ rfl rfl (by decide) (Nat.zero_le _) (Nat.zero_le _) ?_
      refine to_force [false, false, false, false, false, false, true, false, false, false, false, true] ?_
      conv => whnf
      refine to_swap 7 13 [false, false, false, false, false, false, false, false, false, false, false, true] _ _ rfl rfl (by decide) (Nat.zero_le _) (Nat.zero_le _) ?_
      refine to_force [false, false, false, false, false, false, true, false, false, false, false, true] ?_
      conv => whnf
      refine to_swap 8 11 [false, false, false, false, false, false, false, false, true] _ _ rfl rfl (by decide) (Nat.zero_le _) (Nat.zero_le _) ?_
      refine to_force [false, false, false, false, false, false, true, false, true] ?_
      conv => whnf
      refine St.le.to ?_
      conv => whnf
      repeat' (first
        | exact trivial
        | exact rfl
        | exact pureL_ints _ _
        | exact Or.inl (And.intro rfl rfl)
        | exact le_ints rfl
        | exact pureL_ii _ _
        | refine Or.inr ?_
        | refine And.intro ?_ ?_
        | exact Nat.le_of_ble_eq_true rfl)
    · skip
      refine to_close 12 0 6 _ _ 1 3 _ _ rfl rfl rfl (by decide) (Nat.zero_le _) (by decide) (by simp) ?_
      refine to_force [false, false, false, false, false, false, false, false, false, false, true, false, true] ?_
      conv => whnf
      refine to_close 12 1 11 _ _ 1 3 _ _ rfl rfl rfl (by decide) (Nat.zero_le _) (by decide) (by simp) ?_
      refine to_force [false, false, false, false, false, false, false, false, false, false, true, false, true] ?_
      conv => whnf
      refine to_swap 6 12 [false, false, false, false, false, false, false, false, false, false, true] _ _ rfl rfl (by decide) (Nat.zero_le _) (Nat.zero_le _) ?_
      refine to_force [false, false, false, false, false, false, true, false, false, false, true] ?_
      conv => whnf
      refine to_swap 7 13 [false, false, false, false, false, false, false, false, false, false, true] _ _ rfl rfl (by decide) (Nat.zero_le _) (Nat.zero_le _) ?_
      refine to_force [false, false, false, false, false, false, true, false, false, false, true] ?_
      conv => whnf
      refine to_swap 8 10 [false, false, false, false, false, false, false, false, true] _ _ rfl rfl (by decide) (Nat.zero_le _) (Nat.zero_le _) ?_
      refine to_force [false, false, false, false, false, false, true, false, true] ?_
      conv => whnf
      refine St.le.to ?_
      conv => whnf
      repeat' (first
        | exact trivial
        | exact rfl
        | exact pureL_ints _ _
        | exact Or.inl (And.intro rfl rfl)
        | exact le_ints rfl
        | exact pureL_ii _ _
        | refine Or.inr ?_
        | refine And.intro ?_ ?_
        | exact Nat.le_of_ble_eq_true rfl)
    · skip
      refine to_close 12 0 10 _ _ 1 3 _ _ rfl rfl rfl (by decide) (Nat.zero_le _) (by decide) (by simp) ?_
      refine to_force [false, false, false, false, false, false, false, false, false, true, false, false, true] ?_
      conv => whnf
      refine to_close 12 1 11 _ _ 1 3 _ _ rfl rfl rfl (by decide) (Nat.zero_le _) (by decide) (by simp) ?_
      refine to_force [false, false, false, false, false, false, false, false, false, true, false, false, true] ?_
      conv => whnf
      refine to_swap 6 12 [false, false, false, false, false, false, false, false, false, true] _ _ rfl rfl (by decide) (Nat.zero_le _) (Nat.zero_le _) ?_
      refine to_force [false, false, false, false, false, false, true, false, false, true] ?_
      conv => whnf
      refine to_swap 7 13 [false, false, false, false, false, false, false, false, false, true] _ _ rfl rfl (by decide) (Nat.zero_le _) (Nat.zero_le _) ?_
      refine to_force [false, false, false, false, false, false, true, false, false, true] ?_
      conv => whnf
      refine to_swap 8 9 [false, false, false, false, false, false, false, false, true] _ _ rfl rfl (by decide) (Nat.zero_le _) (Nat.zero_le _) ?_
      refine to_force [false, false, false, false, false, false, true, false, true] ?_
      conv => whnf
      refine St.le.to ?_
      conv => whnf
      repeat' (first
        | exact trivial
        | exact rfl
        | exact pureL_ints _ _
        | exact Or.inl (And.intro rfl rfl)
        | exact le_ints rfl
        | exact pureL_ii _ _
        | refine Or.inr ?_
        | refine And.intro ?_ ?_
        | exact Nat.le_of_ble_eq_true rfl)
    · skip
      refine to_close 12 0 10 _ _ 1 3 _ _ rfl rfl rfl (by decide) (Nat.zero_le _) (by decide) (by simp) ?_
      refine to_force [false, false, false, false, false, false, false, false, true, false, false, false, true] ?_
      conv => whnf
      refine to_close 12 1 11 _ _ 1 3 _ _ rfl rfl rfl (by decide) (Nat.zero_le _) (by decide) (by simp) ?_
      refine to_force [false, false, false, false, false, false, false, false, true, false, false, false, true] ?_
      conv => whnf
      refine to_swap 5 9 [false, false, false, false, false, false, false, false, true] _ _ rfl rfl (by decide) (Nat.zero_le _) (Nat.zero_le _) ?_
      refine to_force [false, false, false, false, false, false, false, false, true, false, false, false, true] ?_
      conv => whnf
      refine to_swap 6 12 [false, false, false, false, false, false, false, false, true] _ _ rfl rfl (by decide) (Nat.zero_le _) (Nat.zero_le _) ?_
      refine to_force [false, false, false, false, false, false, true, false, true] ?_
      conv => whnf
      refine to_swap 7 13 [false, false, false, false, false, false, false, false, true] _ _ rfl rfl (by decide) (Nat.zero_le _) (Nat.zero_le _) ?_
      refine to_force [false, false, false, false, false, false, true, false, true] ?_
      conv => whnf
      refine St.le.to ?_
      conv => whnf
      repeat' (first
        | exact trivial
        | exact rfl
        | exact pureL_ints _ _
        | exact Or.inl (And.intro rfl rfl)
        | exact le_ints rfl
        | exact pureL_ii _ _
        | refine Or.inr ?_
        | refine And.intro ?_ ?_
        | exact Nat.le_of_ble_eq_true rfl)
end Go.Proofs.Ytmgggbgejdkamaa
