import Derived.Test.YtmgggbgejdkamaaM0x20
import Derived.Test.YtmgggbgejdkamaaM0x15
import Derived.Test.YtmgggbgejdkamaaM0x13
import Derived.Test.YtmgggbgejdkamaaM0x19
/- Chapter 4: WithOrder of the model. -/
namespace Go.Proofs.Ytmgggbgejdkamaa
set_option maxRecDepth 20000
open Go.RowKit Go.Am
set_option linter.unusedSimpArgs false
attribute [local irreducible] aPlan aGet aIf aLoop aCall RetB NextB CallB CallG aCut aSet aAppend
/-- The factors with the first k of them in their new order. -/
def wk (fs : List (List Int)) (ax : List Int) (k : Nat) : List (List Int) := (pk fs ax).take k ++ fs.drop k
theorem wk_length {fs : List (List Int)} {ax : List Int} {k : Nat} (hl : ax.length = fs.length) (hk : k ≤ fs.length) : (wk fs ax k).length = fs.length := by
  unfold wk; rw [List.length_append, List.length_take, List.length_drop, pk_length]; omega
theorem wk_next {fs : List (List Int)} {ax : List Int} {k : Nat} (hl : ax.length = fs.length) (hk : k < fs.length) : (wk fs ax k).set k (fs.getD (ax.getD k 0).toNat []) = wk fs ax (k + 1) := by
  have hpl := pk_length fs ax
  refine getD_extG (d := []) (by rw [List.length_set, wk_length hl (by omega), wk_length hl hk]) fun j hj => ?_
  rw [wk_length hl hk] at hj
  rw [getD_setG (by rw [wk_length hl (by omega)]; exact hk)]
  have g1 : ∀ m, (wk fs ax m).getD j [] = if j < m then (pk fs ax).getD j [] else fs.getD j [] := fun m => by
    unfold wk
    by_cases hjm : j < m
    · rw [if_pos hjm]
      simp only [List.getD]
      rw [List.getElem?_append_left (by rw [List.length_take]; omega), List.getElem?_take, if_pos hjm]
    · rw [if_neg hjm]
      simp only [List.getD]
      rw [List.getElem?_append_right (by rw [List.length_take]; omega), List.getElem?_drop, List.length_take]
      congr 2; omega
  rw [g1, g1]
  split
  · rename_i e
    subst e
    rw [if_pos (by omega), pk_getD (by omega)]
  · rename_i e
    by_cases hjk : j < k
    · rw [if_pos hjk, if_pos (by omega)]
    · rw [if_neg hjk, if_neg (by omega)]
theorem wk_all {fs : List (List Int)} {ax : List Int} {k : Nat} (hl : ax.length = fs.length) (hk : k = fs.length) : wk fs ax k = pk fs ax := by
  have hpl := pk_length fs ax
  unfold wk
  rw [List.drop_of_length_le (by omega), List.append_nil, List.take_of_length_le (by omega)]
theorem set_own {t : TypeId} {l : List (List Int)} {k : Nat} {u : AV} {K : List AV → Prop} (h : k < l.length) (hK : K ((l.map (ownI t)).set (0 + (k : Int).toNat * 1) u)) : aSet (l.map (ownI t)) (0 + (k : Int).toNat * 1) [u] K := set_one (by simp; omega) hK
set_option maxHeartbeats 4000000 in
theorem sWithOrder_sound : Sound Try.prog 58 sWithOrder := by
  refine sound_of Try.func58 rfl (enters_of Try.func58 (by kernel_rfl) (by kernel_rfl)) ?_
  rintro ⟨⟨c, zs, d, fs, e, o⟩, g, ax⟩ -
  have hmax : maxLen = 9223372036854775807 := rfl
  by_cases h : sumP zs fs o
  · have h4 := h.2.2.1
    by_cases hl : ax.length = fs.length
    · have hl' : (ax.length : Int) = fs.length := by omega
      by_cases hp : difP ax fs.length
      · have hp' : difP ax ax.length := by rw [hl']; exact hp
        have hin := difP_in hp
        have hls := fun (j : Nat) (hj : j < fs.length) => (lettersP_k h.2.2.2.2.1 hj).1
        have hz5 := h.1
        have ho3 := h.2.2.2.1.1
        have hcp : zs.length ≤ 5 ∧ o.length ≤ 3 ∧ fs.length ≤ 4 ∧ ∀ k, k < fs.length → (fs.getD k []).length ≤ 3 := ⟨hz5, ho3, h4.2, hls⟩
        conv => whnf
        repeat' (first
          | (refine plan_in (id := 7) [0, 1, 2, 3, 4, 5, 6, 7, 8, 9, 10, 11, 12, 13] (by kernel_rfl) (by kernel_rfl) ?_; conv => whnf)
          | (refine aIf_t ?_; conv => whnf)
          | (refine aIf_f ?_; conv => whnf)
          | (refine fun (_ : _ ≤ maxLen) => ?_; conv => whnf)
          | (refine aGet_in rfl ?_; conv => whnf)
          | (refine And.intro (by omega) ?_; conv => whnf)
          | (refine load_same ?_; conv => whnf)
          | (refine And.intro rfl (And.intro (List.cons_ne_nil _ _) ?_); conv => whnf)
          | (refine And.intro (Nat.le_of_ble_eq_true rfl) ?_; conv => whnf)
          | (refine callG_t ?_; conv => whnf)
          | (refine append_same ?_; conv => whnf)
          | (refine And.intro (pureL_ii _ _) ?_; conv => whnf)
          | (refine l4Each_call (by first | omega | assumption | (refine ⟨?_, ?_⟩ <;> first | assumption | omega) | (refine ⟨?_, ?_, ?_⟩ <;> first | assumption | omega)) ?_; conv => whnf)
          | (refine l4Copy_call (by assumption) ?_; conv => whnf)
          | (refine sSumOk_call trivial ?_; conv => whnf)
          | (refine takeN_in ?_; conv => whnf)
          | (refine And.intro (pureL_ints _ _) ?_; conv => whnf)
          | (refine set_force ?_; conv => whnf)
          | (refine And.intro (by kernel_rfl) ?_; conv => whnf)
          | refine aIf_eqf ?_
          | refine aIf_not ?_
          | (refine aIf_dec (fun _ => ?_) (fun _ => ?_) <;> conv => whnf))
        all_goals (first | (exfalso; omega) | contradiction | skip)
        refine loop_ut (ι := Nat) [false, true, true, false, true, false, true, true, false, false, false, false, false, false, false, false, false, false, false, false, false, false, false, false, false, false, false, false, false, false, false, false, false, false, false, false, false, false, false, false, false, false, false, false, false, false, false] (fun k => [(7, .int .i64 k)]) (fun k => [(6, (wk fs ax k).map (ownI 3))]) (fun k => k ≤ ax.length) (fun k => ax.length - k) (0) (Nat.zero_le _) ?_ ?_
        · conv => whnf
          refine St.le.to ?_
          conv => whnf
          repeat' (first
            | exact trivial
            | exact rfl
            | exact pureL_ints _ _
            | exact Or.inl (And.intro rfl rfl)
            | exact le_ints rfl
            | exact pureL_ii _ _
            | exact Or.inl (And.intro (pureL_oi _ _) rfl)
            | refine Or.inr ?_
            | refine And.intro ?_ ?_
            | exact Nat.le_of_ble_eq_true rfl)
        · rintro k hk
          have hk : k ≤ ax.length := hk
          have hwl := wk_length (k := k) hl (by omega)
          by_cases hlt : k < ax.length
          · have hi := hin k hlt
            have h3 := hls (ax.getD k 0).toNat (by omega)
            have hwn := wk_next (k := k) hl (by omega)
            conv => whnf
            repeat' (first
              | (refine plan_in (id := 7) [0, 1, 2, 3, 4, 5, 6, 7, 8, 9, 10, 11, 12, 13] (by kernel_rfl) (by kernel_rfl) ?_; conv => whnf)
              | (refine fun (_ : _ ≤ maxLen) => ?_; conv => whnf)
              | (refine get_nat (by omega) ?_; conv => whnf)
              | (refine aGet_in rfl ?_; conv => whnf)
              | (refine And.intro (by omega) ?_; conv => whnf)
              | (refine load_same ?_; conv => whnf)
              | (refine l2Nums_call (by omega) ?_; conv => whnf)
              | (refine append_same ?_; conv => whnf)
              | (refine get_ii (by omega) ?_; conv => whnf)
              | (refine set_own (by omega) ?_; conv => whnf)
              | (refine takeN_in ?_; conv => whnf)
              | (refine And.intro (pureL_ints _ _) ?_; conv => whnf)
              | (refine And.intro rfl (And.intro rfl (And.intro (by first | omega | (rw [List.length_map]; omega)) ?_)); conv => whnf)
              | (refine set_force ?_; conv => whnf)
              | (refine aIf_dec (fun _ => ?_) (fun _ => ?_) <;> conv => whnf))
            all_goals (first | (exfalso; omega) | skip)
            refine next_ut (k + 1) (show ax.length - (k + 1) < ax.length - k by omega) (by exact (by omega : k + 1 ≤ ax.length)) ?_
            rw [← hwn]
            conv => whnf
            refine to_close 6 (0 + (k : Int).toNat * 1) 12 _ _ 1 3 _ _ rfl (get_setC (by simp; omega)) rfl (by decide) (Nat.zero_le _) (by decide) (by simp) ?_
            refine St.le.to ?_
            conv => whnf
            repeat' (first | exact le_setC (by simp) rfl (ownI_pure _) | refine And.intro ?_ ?_)
            repeat' (first
              | exact trivial
              | exact rfl
              | exact pureL_ints _ _
              | exact Or.inl (And.intro rfl rfl)
              | exact le_ints rfl
              | exact pureL_ii _ _
              | refine Or.inr ?_
              | refine And.intro ?_ ?_
              | exact Nat.le_of_ble_eq_true rfl
              | exact int_eq (by rw [IntWalk.i64_in _ (by omega)] <;> omega))
          · have he : k = fs.length := by omega
            have e := wk_all hl he
            conv => whnf
            repeat' (first
              | (refine plan_in (id := 7) [0, 1, 2, 3, 4, 5, 6, 7, 8, 9, 10, 11, 12, 13] (by kernel_rfl) (by kernel_rfl) ?_; conv => whnf)
              | (refine fun (_ : _ ≤ maxLen) => ?_; conv => whnf)
              | (refine get_nat (by omega) ?_; conv => whnf)
              | (refine aGet_in rfl ?_; conv => whnf)
              | (refine And.intro (by omega) ?_; conv => whnf)
              | (refine load_same ?_; conv => whnf)
              | (refine And.intro (Nat.le_of_ble_eq_true rfl) ?_; conv => whnf)
              | (refine l2Nums_call (by omega) ?_; conv => whnf)
              | (refine append_same ?_; conv => whnf)
              | (refine get_ii_n (by omega) ?_; conv => whnf)
              | (refine set_own (by omega) ?_; conv => whnf)
              | (refine takeN_in ?_; conv => whnf)
              | (refine set_force ?_; conv => whnf)
              | (refine And.intro (by kernel_rfl) ?_; conv => whnf)
              | (refine aIf_dec (fun _ => ?_) (fun _ => ?_) <;> conv => whnf))
            all_goals (first | (exfalso; omega) | skip)
            rw [e]
            exact retISB (woM_t ⟨h, hl, hp⟩) (decide_eq_true (show woP zs fs o ax from ⟨h, hl, hp⟩)).symm (by decide) (by decide) (by decide) rfl rfl rfl rfl (by rw [pk_length]; exact hl.symm) rfl
      · have hp' : ¬ difP ax ax.length := by rw [hl']; exact hp
        have hn : ¬ woP zs fs o ax := fun h' => hp h'.2.2
        conv => whnf
        repeat' (first
          | (refine plan_in (id := 7) [0, 1, 2, 3, 4, 5, 6, 7, 8, 9, 10, 11, 12, 13] (by kernel_rfl) (by kernel_rfl) ?_; conv => whnf)
          | (refine aIf_t ?_; conv => whnf)
          | (refine aIf_f ?_; conv => whnf)
          | (refine fun (_ : _ ≤ maxLen) => ?_; conv => whnf)
          | (refine aGet_in rfl ?_; conv => whnf)
          | (refine And.intro (by omega) ?_; conv => whnf)
          | (refine load_same ?_; conv => whnf)
          | (refine And.intro rfl (And.intro (List.cons_ne_nil _ _) ?_); conv => whnf)
          | (refine And.intro (Nat.le_of_ble_eq_true rfl) ?_; conv => whnf)
          | (refine callG_t ?_; conv => whnf)
          | (refine append_same ?_; conv => whnf)
          | (refine And.intro (pureL_ii _ _) ?_; conv => whnf)
          | (refine l4Each_call (by first | omega | assumption | (refine ⟨?_, ?_⟩ <;> first | assumption | omega) | (refine ⟨?_, ?_, ?_⟩ <;> first | assumption | omega)) ?_; conv => whnf)
          | (refine sSumOk_call trivial ?_; conv => whnf)
          | (refine takeN_in ?_; conv => whnf)
          | (refine And.intro (pureL_ints _ _) ?_; conv => whnf)
          | (refine set_force ?_; conv => whnf)
          | (refine And.intro (by kernel_rfl) ?_; conv => whnf)
          | refine aIf_eqf ?_
          | refine aIf_not ?_
          | (refine aIf_dec (fun _ => ?_) (fun _ => ?_) <;> conv => whnf))
        all_goals (first | (exfalso; omega) | contradiction | skip)
        exact retISB (woM_f hn) (decide_eq_false hn).symm (by decide) (by decide) (by decide) rfl rfl rfl rfl rfl rfl
    · have hn : ¬ woP zs fs o ax := fun h' => hl h'.2.1
      conv => whnf
      repeat' (first
        | (refine plan_in (id := 7) [0, 1, 2, 3, 4, 5, 6, 7, 8, 9, 10, 11, 12, 13] (by kernel_rfl) (by kernel_rfl) ?_; conv => whnf)
        | (refine aIf_t ?_; conv => whnf)
        | (refine aIf_f ?_; conv => whnf)
        | (refine fun (_ : _ ≤ maxLen) => ?_; conv => whnf)
        | (refine aGet_in rfl ?_; conv => whnf)
        | (refine And.intro (by omega) ?_; conv => whnf)
        | (refine load_same ?_; conv => whnf)
        | (refine And.intro rfl (And.intro (List.cons_ne_nil _ _) ?_); conv => whnf)
        | (refine And.intro (Nat.le_of_ble_eq_true rfl) ?_; conv => whnf)
        | (refine callG_t ?_; conv => whnf)
        | (refine append_same ?_; conv => whnf)
        | (refine And.intro (pureL_ii _ _) ?_; conv => whnf)
        | (refine l4Each_call (by first | omega | assumption | (refine ⟨?_, ?_⟩ <;> first | assumption | omega) | (refine ⟨?_, ?_, ?_⟩ <;> first | assumption | omega)) ?_; conv => whnf)
        | (refine sSumOk_call trivial ?_; conv => whnf)
        | (refine takeN_in ?_; conv => whnf)
        | (refine And.intro (pureL_ints _ _) ?_; conv => whnf)
        | (refine set_force ?_; conv => whnf)
        | (refine And.intro (by kernel_rfl) ?_; conv => whnf)
        | refine aIf_eqf ?_
        | refine aIf_not ?_
        | (refine aIf_dec (fun _ => ?_) (fun _ => ?_) <;> conv => whnf))
      all_goals (first | (exfalso; omega) | contradiction | skip)
      exact retISB (woM_f hn) (decide_eq_false hn).symm (by decide) (by decide) (by decide) rfl rfl rfl rfl rfl rfl
  · have hn : ¬ woP zs fs o ax := fun h' => h h'.1
    conv => whnf
    repeat' (first
      | (refine plan_in (id := 7) [0, 1, 2, 3, 4, 5, 6, 7, 8, 9, 10, 11, 12, 13] (by kernel_rfl) (by kernel_rfl) ?_; conv => whnf)
      | (refine aIf_t ?_; conv => whnf)
      | (refine aIf_f ?_; conv => whnf)
      | (refine fun (_ : _ ≤ maxLen) => ?_; conv => whnf)
      | (refine aGet_in rfl ?_; conv => whnf)
      | (refine load_same ?_; conv => whnf)
      | (refine And.intro rfl (And.intro (List.cons_ne_nil _ _) ?_); conv => whnf)
      | (refine And.intro (Nat.le_of_ble_eq_true rfl) ?_; conv => whnf)
      | (refine callG_t ?_; conv => whnf)
      | (refine append_same ?_; conv => whnf)
      | (refine And.intro (pureL_ii _ _) ?_; conv => whnf)
      | (refine sSumOk_call trivial ?_; conv => whnf)
      | (refine takeN_in ?_; conv => whnf)
      | (refine And.intro (pureL_ints _ _) ?_; conv => whnf)
      | (refine set_force ?_; conv => whnf)
      | (refine And.intro (by kernel_rfl) ?_; conv => whnf)
      | refine aIf_eqf ?_
      | refine aIf_not ?_
      | (refine aIf_dec (fun _ => ?_) (fun _ => ?_) <;> conv => whnf))
    all_goals (first | contradiction | skip)
    exact retISB (woM_f hn) (decide_eq_false hn).symm (by decide) (by decide) (by decide) rfl rfl rfl rfl rfl rfl
end Go.Proofs.Ytmgggbgejdkamaa

/- Chapter 3: lists of lists that hold marks. -/
namespace Go.Proofs.Ytmgggbgejdkamaa
set_option maxRecDepth 20000
open Go.RowKit Go.Am
set_option linter.unusedSimpArgs false
attribute [local irreducible] aPlan aGet aIf aLoop aCall RetB NextB CallB CallG aCut aSet aAppend
theorem heldIntSS_sound : Sound Try.prog 46 (fnS (ι := Nat × List (List Int) × Int) (fun | (c, xss, m) => [.sl c xss.length ((marksII m xss).map (slI c)), .int .i64 m]) (fun | (_, xss, m) => xss.length ≤ 1048576 ∧ tot xss ≤ 1048576 ∧ 0 ≤ m ∧ m ≤ 100000000000) (fun | (_, xss, m) => .int .i64 (m + tot xss))) := by
  refine sound_of Try.func46 rfl (enters_of Try.func46 (by kernel_rfl) (by kernel_rfl)) ?_
  rintro ⟨c, xss, m⟩ hpre
  have hpre : xss.length ≤ 1048576 ∧ tot xss ≤ 1048576 ∧ 0 ≤ m ∧ m ≤ 100000000000 := hpre
  have hmax : maxLen = 9223372036854775807 := rfl
  have hML := marksII_length m xss
  conv => whnf
  repeat' (first
    | (refine append_same ?_; conv => whnf))
  refine loop_u (ι := Nat) [true, true, false, false, false, true, false, false, false, false, false, false, false, false, false, false, false, false, false, false, false] (fun k => [(1, .int .i64 (m + tot (xss.take k))), (5, .int .i64 k)]) (fun _ => []) (fun k => k ≤ xss.length) (fun k => xss.length - k) (0) (Nat.zero_le _) ?_ ?_
  · conv => whnf
    repeat' (first
      | exact trivial
      | exact rfl
      | exact pureL_ii _ _
      | refine And.intro ?_ ?_
      | exact Nat.le_of_ble_eq_true rfl
      | exact int_eq (Int.add_zero _).symm)
    all_goals exact int_eq (by simp [tot])
  · rintro k hk
    have hk : k ≤ xss.length := hk
    by_cases hlt : k < xss.length
    · have hg := marksII_getD m xss k hlt
      have hs := tot_succ hlt
      have hl := len_le_tot hlt
      have ht : tot (xss.take (k + 1)) ≤ tot xss := sum_take_le List.length xss (k + 1)
      have hgl : ((marksII m xss).getD k []).length = (xss.getD k []).length := by rw [hg, marks_length]
      conv => whnf
      repeat' (first
        | (refine fun (_ : _ ≤ maxLen) => ?_; conv => whnf)
        | (refine And.intro (by omega) ?_; conv => whnf)
        | (refine callG_t ?_; conv => whnf)
        | (refine append_same ?_; conv => whnf)
        | (refine get_ii_n (by omega) ?_; conv => whnf)
        | (refine And.intro (pureL_ints _ _) ?_; conv => whnf)
        | (refine aIf_dec (fun _ => ?_) (fun _ => ?_) <;> conv => whnf))
      all_goals (first | (exfalso; omega) | skip)
      refine held_call (m := m + tot (xss.take k)) (by omega) ?_
      rw [if_pos (by rw [hgl]; exact hg), hgl]
      conv => whnf
      repeat' (first
        | (refine append_same ?_; conv => whnf)
        | (refine aIf_dec (fun _ => ?_) (fun _ => ?_) <;> conv => whnf))
      all_goals (first | (exfalso; omega) | skip)
      refine next_u (k + 1) (show xss.length - (k + 1) < xss.length - k by omega) (by exact (by omega : k + 1 ≤ xss.length)) ?_
      conv => whnf
      repeat' (first
        | exact trivial
        | exact rfl
        | exact pureL_ii _ _
        | refine And.intro ?_ ?_
        | exact Nat.le_of_ble_eq_true rfl
        | exact int_eq (by omega)
        | exact int_eq (by rw [IntWalk.i64_in _ (by omega)] <;> omega))
      all_goals (first | exact int_eq (by omega) | skip)
    · have e := tot_all (show k = xss.length by omega)
      conv => whnf
      repeat' (first
        | (refine fun (_ : _ ≤ maxLen) => ?_; conv => whnf)
        | (refine And.intro (by omega) ?_; conv => whnf)
        | (refine callG_t ?_; conv => whnf)
        | (refine append_same ?_; conv => whnf)
        | (refine get_ii_n (by omega) ?_; conv => whnf)
        | (refine aIf_dec (fun _ => ?_) (fun _ => ?_) <;> conv => whnf))
      all_goals (first | (exfalso; omega) | skip)
      exact retS rfl (int_eq (by rw [e]))
theorem cut_marksII {f : Nat} {t : TypeId} {xss : List (List Int)} {m : Int} {n : Nat} {k : List AV → Prop} (hn : n = xss.length) (hk : k ((marksII m xss).map (slI 0))) : aCut (f + 2) ((marksII m xss).map (ownI t)) 0 (n * 1) k := cut_ii (by rw [hn, marksII_length]) hk
theorem heldIntSS_call {c n : Nat} {xss : List (List Int)} {m : Int} {env : List AV} {rows : List Row} {ctr low : Nat} {k : AV → St → Prop} (hn : n = xss.length) (hpre : xss.length ≤ 1048576 ∧ tot xss ≤ 1048576 ∧ 0 ≤ m ∧ m ≤ 100000000000) (h : k (.int .i64 (m + tot xss)) ⟨env, rows, ctr + 1, low⟩) :
    CallB Try.prog 46 ⟨env, rows, ctr, low⟩ [.sl c n ((marksII m xss).map (slI c)), .int .i64 m] k := by
  subst hn
  exact callS_in heldIntSS_sound (c, xss, m) hpre rfl h
end Go.Proofs.Ytmgggbgejdkamaa

/- Chapter 4: WithOrder in the law: its calls, and what holds marks. -/
namespace Go.Proofs.Ytmgggbgejdkamaa
set_option maxRecDepth 20000
open Go.RowKit Go.Am
set_option linter.unusedSimpArgs false
attribute [local irreducible] aPlan aGet aIf aLoop aCall RetB NextB CallB CallG aCut aSet aAppend
theorem sWithOrder_call {c d e g : Nat} {zs o ax : List Int} {fs : List (List Int)} {env : List AV} {rows : List Row} {ctr low : Nat} {k : AV → St → Prop} (h : k (.tup [.agg [.ref rows.length ctr 0 (woM zs fs o ax).1.length, .ref (rows.length + 1) ctr 0 (woM zs fs o ax).2.1.length, .ref (rows.length + 2) ctr 0 (woM zs fs o ax).2.2.length], .bool (decide (woP zs fs o ax))]) ⟨env, rows ++ [⟨ctr, 3, 1, (woM zs fs o ax).1.map (.int .i64)⟩, ⟨ctr, 22, 1, (woM zs fs o ax).2.1.map (ownI 3)⟩, ⟨ctr, 3, 1, (woM zs fs o ax).2.2.map (.int .i64)⟩], ctr + 1, low⟩) :
    CallB Try.prog 58 ⟨env, rows, ctr, low⟩ [.agg [.sl c zs.length (zs.map (.int .i64)), .sl d fs.length (fs.map (slI d)), .sl e o.length (o.map (.int .i64))], .sl g ax.length (ax.map (.int .i64))] k := callISB_in sWithOrder_sound ((c, zs, d, fs, e, o), g, ax) trivial h
theorem iWithOrder_call {c d e g : Nat} {zs o ax : List Int} {fs : List (List Int)} {env : List AV} {rows : List Row} {ctr low : Nat} {k : AV → St → Prop} (h : k (.tup [.agg [.ref rows.length ctr 0 (woM zs fs o ax).1.length, .ref (rows.length + 1) ctr 0 (woM zs fs o ax).2.1.length, .ref (rows.length + 2) ctr 0 (woM zs fs o ax).2.2.length], .bool (decide (woP zs fs o ax))]) ⟨env, rows ++ [⟨ctr, 3, 1, (woM zs fs o ax).1.map (.int .i64)⟩, ⟨ctr, 22, 1, (woM zs fs o ax).2.1.map (ownI 3)⟩, ⟨ctr, 3, 1, (woM zs fs o ax).2.2.map (.int .i64)⟩], ctr + 1, low⟩) :
    CallB Try.prog 60 ⟨env, rows, ctr, low⟩ [.agg [.sl c zs.length (zs.map (.int .i64)), .sl d fs.length (fs.map (slI d)), .sl e o.length (o.map (.int .i64))], .sl g ax.length (ax.map (.int .i64))] k := callISB_in iWithOrder_sound ((c, zs, d, fs, e, o), g, ax) trivial h
theorem tot_le3 : ∀ (xss : List (List Int)), (∀ x ∈ xss, x.length ≤ 3) → tot xss ≤ 3 * xss.length
  | [], _ => by simp [tot]
  | x :: xss, h => by
    have h1 := tot_le3 xss fun y hy => h y (List.mem_cons_of_mem _ hy)
    have h2 := h x List.mem_cons_self
    have e : tot (x :: xss) = x.length + tot xss := by simp [tot]
    rw [e, List.length_cons]; omega
theorem woM_size (zs : List Int) (fs : List (List Int)) (o ax : List Int) : isSize (woM zs fs o ax).1 (woM zs fs o ax).2.1 (woM zs fs o ax).2.2 ≤ 1000 := by
  by_cases h : woP zs fs o ax
  · rw [woM_t h]
    obtain ⟨h1, h2, h3⟩ := h
    have hin := difP_in h3
    have h4 := h1.2.2.1
    have hz := h1.1
    have ho := h1.2.2.2.1.1
    have hp : ∀ x ∈ pk fs ax, x.length ≤ 3 := fun x hx => by
      obtain ⟨a, ha, rfl⟩ := List.mem_map.1 hx
      obtain ⟨j, hj, rfl⟩ := List.mem_iff_getElem.1 ha
      have := hin j hj
      have e : ax.getD j 0 = ax[j] := by simp [List.getD, List.getElem?_eq_getElem hj]
      rw [e] at this
      exact (lettersP_k h1.2.2.2.2.1 (by omega)).1
    have ht := tot_le3 _ hp
    rw [pk_length] at ht
    show zs.length + ((pk fs ax).length + tot (pk fs ax)) + o.length ≤ 1000
    rw [pk_length]; omega
  · rw [woM_f h]; exact Nat.zero_le _
def sHeldS : CSpec := fnS (ι := (Nat × Nat × Nat) × Nat × List (List Int) × Nat × Int) (fun | ((c, d, e), n, fs, n', m) => [.agg [.sl c n ((marks m n).map (.int .i64)), .sl d fs.length ((marksII (m + n) fs).map (slI d)), .sl e n' ((marks (m + n + tot fs) n').map (.int .i64))], .int .i64 m]) (fun | (_, n, fs, n', m) => n + (fs.length + tot fs) + n' ≤ 1048576 ∧ 0 ≤ m ∧ m ≤ 1000000) (fun | (_, n, fs, n', m) => .int .i64 (m + n + tot fs + n'))
set_option maxHeartbeats 4000000 in
theorem heldIndexSum_sound : Sound Try.prog 26 sHeldS := by
  refine sound_of Try.func26 rfl (enters_of Try.func26 (by kernel_rfl) (by kernel_rfl)) ?_
  rintro ⟨⟨c, d, e⟩, n, fs, n', m⟩ hpre
  have hpre : n + (fs.length + tot fs) + n' ≤ 1048576 ∧ 0 ≤ m ∧ m ≤ 1000000 := hpre
  conv => whnf
  repeat' (first
    | (refine aGet_in rfl ?_; conv => whnf)
    | (refine And.intro rfl (And.intro (List.cons_ne_nil _ _) ?_); conv => whnf)
    | (refine callG_t ?_; conv => whnf)
    | (refine append_same ?_; conv => whnf)
    | (refine And.intro (pureL_ii _ _) ?_; conv => whnf)
    | (refine heldIntSS_call rfl (by omega) ?_; conv => whnf)
    | (refine And.intro (pureL_ints _ _) ?_; conv => whnf)
    | (refine held_marks_call rfl (by omega) ?_; conv => whnf)
    | (refine aIf_dec (fun _ => ?_) (fun _ => ?_) <;> conv => whnf))
  all_goals (first | (exfalso; omega) | skip)
  exact retS rfl rfl
theorem heldIndexSum_call {c d e n n' k1 k2 k3 : Nat} {fs : List (List Int)} {m : Int} {env : List AV} {rows : List Row} {ctr low : Nat} {k : AV → St → Prop} (e1 : k1 = n) (e2 : k2 = fs.length) (e3 : k3 = n') (hpre : n + (fs.length + tot fs) + n' ≤ 1048576 ∧ 0 ≤ m ∧ m ≤ 1000000) (h : k (.int .i64 (m + n + tot fs + n')) ⟨env, rows, ctr + 1, low⟩) :
    CallB Try.prog 26 ⟨env, rows, ctr, low⟩ [.agg [.sl c k1 ((marks m n).map (.int .i64)), .sl d k2 ((marksII (m + n) fs).map (slI d)), .sl e k3 ((marks (m + n + tot fs) n').map (.int .i64))], .int .i64 m] k := by
  subst e1; subst e2; subst e3
  exact callS_in heldIndexSum_sound ((c, d, e), k1, fs, k3, m) hpre rfl h
end Go.Proofs.Ytmgggbgejdkamaa

/- Sums of places times steps. -/
namespace Go.Proofs.Ytmgggbgejdkamaa
set_option maxRecDepth 20000
open Go.RowKit Go.Am

def dotTo (ps ss : List Int) : Nat → Int
  | 0 => 0
  | k + 1 => dotTo ps ss k + ps.getD k 0 * ss.getD k 0
theorem mul_in {a b : Int} (ha : 0 ≤ a ∧ a ≤ 3) (hb : 0 ≤ b ∧ b ≤ 64) : 0 ≤ a * b ∧ a * b ≤ 192 := by
  have h1 := Int.mul_le_mul ha.2 hb.2 hb.1 (by omega)
  exact ⟨Int.mul_nonneg ha.1 hb.1, by omega⟩
theorem dot_in {ps ss : List Int} {n : Nat} (hp : ∀ j, j < n → 0 ≤ ps.getD j 0 ∧ ps.getD j 0 ≤ 3) (hs : ∀ j, j < n → 0 ≤ ss.getD j 0 ∧ ss.getD j 0 ≤ 64) : ∀ k, k ≤ n → 0 ≤ dotTo ps ss k ∧ dotTo ps ss k ≤ 192 * k
  | 0, _ => ⟨Int.le_refl 0, Int.le_refl 0⟩
  | k + 1, hk => by
    have ih := dot_in hp hs k (by omega)
    have h1 := mul_in (hp k (by omega)) (hs k (by omega))
    show 0 ≤ dotTo ps ss k + _ ∧ dotTo ps ss k + _ ≤ _
    omega
theorem dot_mono {ps ss : List Int} {n : Nat} (hp : ∀ j, j < n → 0 ≤ ps.getD j 0 ∧ ps.getD j 0 ≤ 3) (hs : ∀ j, j < n → 0 ≤ ss.getD j 0 ∧ ss.getD j 0 ≤ 64) {q : Nat} : ∀ d, q + d ≤ n → dotTo ps ss q ≤ dotTo ps ss (q + d)
  | 0, _ => Int.le_refl _
  | d + 1, hd => by
    have ih := dot_mono hp hs d (q := q) (by omega)
    have h1 := mul_in (hp (q + d) (by omega)) (hs (q + d) (by omega))
    have e : dotTo ps ss (q + (d + 1)) = dotTo ps ss (q + d) + ps.getD (q + d) 0 * ss.getD (q + d) 0 := rfl
    omega

/-- Strides are what they are without overflow. -/
theorem str_bound {zs : List Int} (hs : shapeOk zs = true) : ∀ m, m ≤ zs.length → 1 ≤ strT zs m ∧ strT zs m ≤ 4 ^ m
  | 0, _ => ⟨Int.le_refl _, Int.le_refl _⟩
  | m + 1, hm => by
    obtain ⟨h1, h2⟩ := str_bound hs m (by omega)
    have h5 := size_in hs (j := zs.length - 1 - m) (by omega)
    have h3 := ((shapeOk_iff zs).1 hs).1
    have hp := pow4 (n := m) (by omega)
    have a1 : 1 * 1 ≤ strT zs m * zs.getD (zs.length - 1 - m) 0 := Int.mul_le_mul h1 h5.1 (by decide) (by omega)
    have a2 : strT zs m * zs.getD (zs.length - 1 - m) 0 ≤ 4 ^ m * 4 := Int.mul_le_mul h2 h5.2 (by omega) (by omega)
    have e := strT_next (zs := zs) (q := zs.length - (m + 1)) (by omega)
    rw [show zs.length - (zs.length - (m + 1)) = m + 1 by omega, show zs.length - (zs.length - (m + 1) + 1) = m by omega, show zs.length - (m + 1) = zs.length - 1 - m by omega] at e
    rw [IntWalk.i64_in _ (by omega)] at e
    rw [e, Int.pow_succ]
    exact ⟨by omega, a2⟩
theorem str_in {zs : List Int} (hs : shapeOk zs = true) {m : Nat} (hm : m ≤ zs.length) : 1 ≤ strT zs m ∧ strT zs m ≤ 64 := by
  have h1 := str_bound hs m hm
  have h3 := ((shapeOk_iff zs).1 hs).1
  have hp := pow4 (n := m) (by omega)
  omega
theorem str_next {zs : List Int} (hs : shapeOk zs = true) {k : Nat} (hk : k < zs.length) : strT zs (zs.length - k) = strT zs (zs.length - (k + 1)) * zs.getD k 0 := by
  have h1 := str_in hs (m := zs.length - (k + 1)) (by omega)
  have h2 := size_in hs hk
  have h3 := mul_le4 (a := strT zs (zs.length - (k + 1))) (x := zs.getD k 0) (by omega) (by omega)
  rw [strT_next (by omega)]
  exact IntWalk.i64_in _ (by omega)
theorem strides_in {zs : List Int} (hs : shapeOk zs = true) {j : Nat} (hj : j < zs.length) : 1 ≤ (strides zs).getD j 0 ∧ (strides zs).getD j 0 ≤ 64 := by
  rw [strides_getD hj]; exact str_in hs (by omega)

/-- An index is the sum of the places times the strides. -/
theorem idx_dot_k {xs ps : List Int} (hs : shapeOk xs = true) (hp : ∀ j, j < xs.length → 0 ≤ ps.getD j 0 ∧ ps.getD j 0 < xs.getD j 0) : ∀ k, k ≤ xs.length → idxTo xs ps k * strT xs (xs.length - k) = dotTo ps (strides xs) k
  | 0, _ => by show 0 * _ = 0; exact Int.zero_mul _
  | k + 1, hk => by
    have ih := idx_dot_k hs hp k (by omega)
    have hr := idx_range hs hp k (by omega)
    rw [idx_next hs (by omega) hr (hp k (by omega)), Int.add_mul, Int.mul_assoc, Int.mul_comm (xs.getD k 0), ← str_next hs (by omega), ih]
    show _ = dotTo ps (strides xs) k + ps.getD k 0 * (strides xs).getD k 0
    rw [strides_getD (by omega), show xs.length - 1 - k = xs.length - (k + 1) by omega]
theorem idx_dot {xs ps : List Int} (hs : shapeOk xs = true) (hp : ∀ j, j < xs.length → 0 ≤ ps.getD j 0 ∧ ps.getD j 0 < xs.getD j 0) : idxTo xs ps xs.length = dotTo ps (strides xs) xs.length := by
  have h := idx_dot_k hs hp xs.length (Nat.le_refl _)
  rw [Nat.sub_self] at h
  have e : strT xs 0 = 1 := rfl
  rw [e, Int.mul_one] at h
  exact h
theorem places_in {zs : List Int} {i : Int} (hs : shapeOk zs = true) (hi : 0 ≤ i ∧ i < cntTo zs zs.length) {j : Nat} (hj : j < zs.length) : 0 ≤ (places zs i).getD j 0 ∧ (places zs i).getD j 0 ≤ 3 := by
  have h1 := place_in hs hi hj
  have h2 := size_in hs hj
  omega

/-- What is read of numbers, by steps. -/
def rdAt (shape steps : List Int) (start : Int) (i : Nat) : Int := start + dotTo (places shape i) steps shape.length
def rdL (nums shape steps : List Int) (start : Int) : List Int := (List.range (cntTo shape shape.length).toNat).map fun i => nums.getD (rdAt shape steps start i).toNat 0
theorem rdL_length (nums shape steps : List Int) (start : Int) : (rdL nums shape steps start).length = (cntTo shape shape.length).toNat := by simp [rdL]
theorem range_getD {n : Nat} {f : Nat → Int} {j : Nat} (h : j < n) : ((List.range n).map f).getD j 0 = f j := by
  simp [List.getD, List.getElem?_map, List.getElem?_range h]
theorem rdL_getD {nums shape steps : List Int} {start : Int} {j : Nat} (h : j < (cntTo shape shape.length).toNat) : (rdL nums shape steps start).getD j 0 = nums.getD (rdAt shape steps start j).toNat 0 := range_getD h
end Go.Proofs.Ytmgggbgejdkamaa

/- All shapes that there are. -/
namespace Go.Proofs.Ytmgggbgejdkamaa
set_option maxRecDepth 20000
open Go.RowKit Go.Am

def sizes : List Int := [1, 2, 3, 4]
def shapes3 (a : Int) : List (List Int) := sizes.flatMap fun b => sizes.map fun c => [a, b, c]
def shapes2 : List (List Int) := [] :: (sizes.map fun a => [a]) ++ (sizes.flatMap fun a => sizes.map fun b => [a, b])
theorem size_mem {z : Int} (h : 1 ≤ z ∧ z ≤ 4) : z ∈ sizes := by
  have : z = 1 ∨ z = 2 ∨ z = 3 ∨ z = 4 := by omega
  simpa [sizes] using this
theorem shape_all {p : List Int → Bool} (h2 : shapes2.all p = true) (h31 : (shapes3 1).all p = true) (h32 : (shapes3 2).all p = true) (h33 : (shapes3 3).all p = true) (h34 : (shapes3 4).all p = true) {xs : List Int} (h : shapeOk xs = true) : p xs = true := by
  have hl := ((shapeOk_iff xs).1 h).1
  have hs : ∀ z ∈ xs, z ∈ sizes := fun z hz => by
    obtain ⟨j, hj, rfl⟩ := List.mem_iff_getElem.1 hz
    have := size_in h hj
    simp only [List.getD, List.getElem?_eq_getElem hj, Option.getD_some] at this
    exact size_mem this
  rw [List.all_eq_true] at h2 h31 h32 h33 h34
  match xs, hl, hs with
  | [], _, _ => exact h2 _ (by simp [shapes2])
  | [a], _, hs =>
    have ha := hs a (by simp)
    exact h2 _ (by simp [shapes2, ha])
  | [a, b], _, hs =>
    have ha := hs a (by simp)
    have hb := hs b (by simp)
    exact h2 _ (by simp [shapes2, ha, hb])
  | [a, b, c], _, hs =>
    have ha := hs a (by simp)
    have hb := hs b (by simp)
    have hc := hs c (by simp)
    have hm : [a, b, c] ∈ shapes3 a := by
      unfold shapes3
      rw [List.mem_flatMap]
      exact ⟨b, hb, List.mem_map.2 ⟨c, hc, rfl⟩⟩
    have h4 : a = 1 ∨ a = 2 ∨ a = 3 ∨ a = 4 := by simpa [sizes] using ha
    rcases h4 with rfl | rfl | rfl | rfl
    · exact h31 _ hm
    · exact h32 _ hm
    · exact h33 _ hm
    · exact h34 _ hm
  | _ :: _ :: _ :: _ :: _, hl, _ => simp only [List.length_cons] at hl; omega
end Go.Proofs.Ytmgggbgejdkamaa

/- Chapter 2: lists without an axis; what is told of a tensor. -/
namespace Go.Proofs.Ytmgggbgejdkamaa
set_option maxRecDepth 20000
open Go.RowKit Go.Am
/-- Two rows of numbers are told as a tensor, if they are one. -/
def toldPost (t : TypeId) (xs zs : List Int) (r : AV) (ic : List (List AV)) (news : List Row) : Prop :=
  ic = [xs.map (.int .i64), zs.map (.int .i64)] ∧ ((tensorOk xs zs = true ∧ r = .tup [.agg [.ref 0 0 0 xs.length, .ref 1 0 0 zs.length], .bool true] ∧ news = []) ∨
    (tensorOk xs zs = false ∧ r = .tup [.agg [.ref 2 0 0 0, .ref 3 0 0 0], .bool false] ∧ news = [rowL t [], rowL t []]))
def sTold : CSpec := { ι := List Int × List Int, inout := [true], args := fun x => [.agg [.ref 0 0 0 x.1.length, .ref 1 0 0 x.2.length]], ins := fun x => [⟨0, 3, 1, x.1.map (.int .i64)⟩, ⟨0, 3, 1, x.2.map (.int .i64)⟩], pre := fun _ => True, post := fun x => toldPost 3 x.1 x.2 }
def sOrNone : CSpec := { ι := List Int × List Int, inout := [true, true], args := fun x => [.ref 0 0 0 x.1.length, .ref 1 0 0 x.2.length], ins := fun x => [⟨0, 3, 1, x.1.map (.int .i64)⟩, ⟨0, 3, 1, x.2.map (.int .i64)⟩], pre := fun _ => True, post := fun x => toldPost 3 x.1 x.2 }
theorem toldCall {f : FuncId} {sp : CSpec} {env : List AV} {rows : List Row} {ctr low τ1 τ2 v1 v2 : Nat} {args : List AV} {k : AV → St → Prop} (xs zs : List Int) (x : sp.ι) (hs : Sound Try.prog f sp) (hpre : sp.pre x) (hins : sp.ins x = [⟨0, 3, 1, xs.map (.int .i64)⟩, ⟨0, 3, 1, zs.map (.int .i64)⟩]) (hpost : sp.post x = toldPost 3 xs zs)
    (h1 : rows[τ1]? = some ⟨v1, 3, 1, xs.map (.int .i64)⟩) (h2 : rows[τ2]? = some ⟨v2, 3, 1, zs.map (.int .i64)⟩) (hne : τ1 ≠ τ2) (ha : callArgs ⟨env, rows, ctr, low⟩ [τ1, τ2] sp.inout args = some (sp.args x))
    (ht : tensorOk xs zs = true → k (.tup [.agg [.ref τ1 v1 0 xs.length, .ref τ2 v2 0 zs.length], .bool true]) ⟨env, setRows rows [τ1, τ2] [xs.map (.int .i64), zs.map (.int .i64)], ctr + 1, low⟩)
    (hf : tensorOk xs zs = false → k (.tup [.agg [.ref rows.length ctr 0 0, .ref (rows.length + 1) ctr 0 0], .bool false]) ⟨env, setRows rows [τ1, τ2] [xs.map (.int .i64), zs.map (.int .i64)] ++ [⟨ctr, 3, 1, []⟩, ⟨ctr, 3, 1, []⟩], ctr + 1, low⟩) :
    CallG Try.prog f ⟨env, rows, ctr, low⟩ args k := by
  refine .inr ⟨[τ1, τ2], sp, hs, sp.args x, _, by simpa using hne, ha, ?_, x, rfl, hins.symm, hpre, ?_⟩
  · simp [insOf, h1, h2, protL_ren (protL_ints .i64 xs), protL_ren (protL_ints .i64 zs)]
  · rw [hpost]
    rintro r ic news ⟨rfl, ⟨e, rfl, rfl⟩ | ⟨e, rfl, rfl⟩⟩ _
    · have := ht e
      simpa [St.after, St.news, AV.back, Go.Am.backL, backT, backV, verOf, h1, h2, protL_back (protL_ints .i64 xs), protL_back (protL_ints .i64 zs)] using this
    · have := hf e
      simpa [St.after, St.news, AV.back, Go.Am.backL, backT, backV, verOf, h1, h2, protL_back (protL_ints .i64 xs), protL_back (protL_ints .i64 zs), Nat.add_comm] using this
attribute [local irreducible] aPlan aGet aIf aLoop aCall RetB NextB CallB CallG aCut aSet aAppend

def wo (xs : List Int) (a : Nat) : List Int := xs.take a ++ xs.drop (a + 1)
theorem wo_length {xs : List Int} {a : Nat} (h : a < xs.length) : (wo xs a).length = xs.length - 1 := by simp [wo]; omega
theorem map_cut (xs : List Int) (l m : Nat) : ((xs.map (AV.int .i64)).drop l).take m = ((xs.drop l).take m).map (.int .i64) := by simp
theorem l2Nums_cut {c n : Nat} {zs : List Int} {cells : List AV} {env : List AV} {rows : List Row} {ctr low : Nat} {k : AV → St → Prop} (hc : cells = zs.map (.int .i64)) (hn : n = zs.length) (hpre : zs.length ≤ 1048576) (h : k (.ref rows.length ctr 0 zs.length) ⟨env, rows ++ [⟨ctr, 3, 1, zs.map (.int .i64)⟩], ctr + 1, low⟩) :
    CallB Try.prog 98 ⟨env, rows, ctr, low⟩ [.sl c n cells] k := by
  subst hc; subst hn; exact l2Nums_call hpre h
theorem copyNums_cut {c n : Nat} {zs : List Int} {cells : List AV} {env : List AV} {rows : List Row} {ctr low : Nat} {k : AV → St → Prop} (hc : cells = zs.map (.int .i64)) (hn : n = zs.length) (hpre : zs.length ≤ 1048576) (h : k (.ref rows.length ctr 0 zs.length) ⟨env, rows ++ [⟨ctr, 3, 1, zs.map (.int .i64)⟩], ctr + 1, low⟩) :
    CallB Try.prog 86 ⟨env, rows, ctr, low⟩ [.sl c n cells] k := by
  subst hc; subst hn; exact copyNums_call hpre h
set_option maxRecDepth 10000 in
theorem l2Told_sound : Sound Try.prog 78 sTold := by
  refine sound_of Try.func78 rfl (enters_of Try.func78 (by kernel_rfl) (by kernel_rfl)) ?_
  rintro ⟨xs, zs⟩ -
  rcases tensor_or xs zs with ⟨ht, hx, hz⟩ | ht
  · conv => whnf
    dsimp only
    repeat' (first
      | (refine load_same ?_; conv => whnf)
      | (refine And.intro rfl (And.intro (List.cons_ne_nil _ _) ?_); conv => whnf)
      | (refine And.intro (Nat.le_of_ble_eq_true rfl) ?_; conv => whnf)
      | (refine callG_t ?_; conv => whnf)
      | (refine sTensorOk_call ?_; conv => whnf)
      | (refine append_same ?_; conv => whnf)
      | (refine takeN_in ?_; conv => whnf)
      | (refine cut_ints ?_; conv => whnf)
      | (refine set_force ?_; conv => whnf)
      | (refine And.intro (by kernel_rfl) ?_; conv => whnf)
      | (refine aIf_tt (by assumption) ?_; conv => whnf)
      | refine aIf_not ?_)
    exact retKeep2 (xs := xs) (zs := zs) ⟨rfl, .inl ⟨ht, rfl, rfl⟩⟩
  · conv => whnf
    dsimp only
    repeat' (first
      | (refine load_same ?_; conv => whnf)
      | (refine And.intro rfl (And.intro (List.cons_ne_nil _ _) ?_); conv => whnf)
      | (refine And.intro (Nat.le_of_ble_eq_true rfl) ?_; conv => whnf)
      | (refine callG_t ?_; conv => whnf)
      | (refine sTensorOk_call ?_; conv => whnf)
      | (refine append_same ?_; conv => whnf)
      | (refine takeN_in ?_; conv => whnf)
      | (refine cut_ints ?_; conv => whnf)
      | (refine set_force ?_; conv => whnf)
      | (refine And.intro (by kernel_rfl) ?_; conv => whnf)
      | (refine aIf_ff (by assumption) ?_; conv => whnf)
      | refine aIf_not ?_)
    refine retNew2 (xs := xs) (zs := zs) (ps := []) (qs := []) ?_ ?_ ?_ ⟨rfl, .inr ⟨ht, rfl, rfl⟩⟩
    all_goals (first | exact rfl | decide)
set_option maxRecDepth 10000 in
theorem orNone_sound : Sound Try.prog 83 sOrNone := by
  refine sound_of Try.func83 rfl (enters_of Try.func83 (by kernel_rfl) (by kernel_rfl)) ?_
  rintro ⟨xs, zs⟩ -
  rcases tensor_or xs zs with ⟨ht, hx, hz⟩ | ht
  · conv => whnf
    dsimp only
    repeat' (first
      | (refine load_same ?_; conv => whnf)
      | (refine And.intro (Nat.le_of_ble_eq_true rfl) ?_; conv => whnf)
      | (refine callG_t ?_; conv => whnf)
      | (refine iTensorOk_call ?_; conv => whnf)
      | (refine append_same ?_; conv => whnf)
      | (refine takeN_in ?_; conv => whnf)
      | (refine cut_ints ?_; conv => whnf)
      | (refine set_force ?_; conv => whnf)
      | (refine And.intro (by kernel_rfl) ?_; conv => whnf)
      | (refine aIf_tt (by assumption) ?_; conv => whnf)
      | refine aIf_not ?_)
    exact retKeep2 (xs := xs) (zs := zs) ⟨rfl, .inl ⟨ht, rfl, rfl⟩⟩
  · conv => whnf
    dsimp only
    repeat' (first
      | (refine load_same ?_; conv => whnf)
      | (refine And.intro (Nat.le_of_ble_eq_true rfl) ?_; conv => whnf)
      | (refine callG_t ?_; conv => whnf)
      | (refine iTensorOk_call ?_; conv => whnf)
      | (refine append_same ?_; conv => whnf)
      | (refine takeN_in ?_; conv => whnf)
      | (refine cut_ints ?_; conv => whnf)
      | (refine set_force ?_; conv => whnf)
      | (refine And.intro (by kernel_rfl) ?_; conv => whnf)
      | (refine aIf_ff (by assumption) ?_; conv => whnf)
      | refine aIf_not ?_)
    refine retNew2 (xs := xs) (zs := zs) (ps := []) (qs := []) ?_ ?_ ?_ ⟨rfl, .inr ⟨ht, rfl, rfl⟩⟩
    all_goals (first | exact rfl | decide)

theorem orNone_call {env : List AV} {rows : List Row} {ctr low τ1 τ2 v1 v2 n1 n2 : Nat} {k : AV → St → Prop} (xs zs : List Int)
    (h1 : rows[τ1]? = some ⟨v1, 3, 1, xs.map (.int .i64)⟩) (h2 : rows[τ2]? = some ⟨v2, 3, 1, zs.map (.int .i64)⟩) (hne : τ1 ≠ τ2) (e1 : n1 = xs.length) (e2 : n2 = zs.length)
    (ht : tensorOk xs zs = true → k (.tup [.agg [.ref τ1 v1 0 xs.length, .ref τ2 v2 0 zs.length], .bool true]) ⟨env, setRows rows [τ1, τ2] [xs.map (.int .i64), zs.map (.int .i64)], ctr + 1, low⟩)
    (hf : tensorOk xs zs = false → k (.tup [.agg [.ref rows.length ctr 0 0, .ref (rows.length + 1) ctr 0 0], .bool false]) ⟨env, setRows rows [τ1, τ2] [xs.map (.int .i64), zs.map (.int .i64)] ++ [⟨ctr, 3, 1, []⟩, ⟨ctr, 3, 1, []⟩], ctr + 1, low⟩) :
    CallG Try.prog 83 ⟨env, rows, ctr, low⟩ [.ref τ1 v1 0 n1, .ref τ2 v2 0 n2] k := by
  subst e1; subst e2
  refine toldCall xs zs (sp := sOrNone) (xs, zs) orNone_sound trivial rfl rfl h1 h2 hne ?_ ht hf
  have hb : (τ1 == τ2) = false := by simpa using hne
  have a1 : callArg ⟨env, rows, ctr, low⟩ [τ1, τ2] true (.ref τ1 v1 0 xs.length) = some (.ref 0 0 0 xs.length) := by simp [callArg, AV.ren, h1, List.idxOf, List.findIdx_cons]
  have a2 : callArg ⟨env, rows, ctr, low⟩ [τ1, τ2] true (.ref τ2 v2 0 zs.length) = some (.ref 1 0 0 zs.length) := by simp [callArg, AV.ren, h2, List.idxOf, List.findIdx_cons, hb]
  show (callArg ⟨env, rows, ctr, low⟩ [τ1, τ2] true (.ref τ1 v1 0 xs.length)).bind (fun u' => ((callArg ⟨env, rows, ctr, low⟩ [τ1, τ2] true (.ref τ2 v2 0 zs.length)).bind fun u'' => some [u'']).map (u' :: ·)) = _
  rw [a1, a2]
  rfl
theorem l2Told_call {env : List AV} {rows : List Row} {ctr low τ1 τ2 v1 v2 n1 n2 : Nat} {k : AV → St → Prop} (xs zs : List Int)
    (h1 : rows[τ1]? = some ⟨v1, 3, 1, xs.map (.int .i64)⟩) (h2 : rows[τ2]? = some ⟨v2, 3, 1, zs.map (.int .i64)⟩) (hne : τ1 ≠ τ2) (e1 : n1 = xs.length) (e2 : n2 = zs.length)
    (ht : tensorOk xs zs = true → k (.tup [.agg [.ref τ1 v1 0 xs.length, .ref τ2 v2 0 zs.length], .bool true]) ⟨env, setRows rows [τ1, τ2] [xs.map (.int .i64), zs.map (.int .i64)], ctr + 1, low⟩)
    (hf : tensorOk xs zs = false → k (.tup [.agg [.ref rows.length ctr 0 0, .ref (rows.length + 1) ctr 0 0], .bool false]) ⟨env, setRows rows [τ1, τ2] [xs.map (.int .i64), zs.map (.int .i64)] ++ [⟨ctr, 3, 1, []⟩, ⟨ctr, 3, 1, []⟩], ctr + 1, low⟩) :
    CallG Try.prog 78 ⟨env, rows, ctr, low⟩ [.agg [.ref τ1 v1 0 n1, .ref τ2 v2 0 n2]] k := by
  subst e1; subst e2
  refine toldCall xs zs (sp := sTold) (xs, zs) l2Told_sound trivial rfl rfl h1 h2 hne ?_ ht hf
  have hb : (τ1 == τ2) = false := by simpa using hne
  have a1 : callArg ⟨env, rows, ctr, low⟩ [τ1, τ2] true (.agg [.ref τ1 v1 0 xs.length, .ref τ2 v2 0 zs.length]) = some (.agg [.ref 0 0 0 xs.length, .ref 1 0 0 zs.length]) := by simp [callArg, AV.ren, Go.Am.renL, h1, h2, List.idxOf, List.findIdx_cons, hb]
  show (callArg ⟨env, rows, ctr, low⟩ [τ1, τ2] true (.agg [.ref τ1 v1 0 xs.length, .ref τ2 v2 0 zs.length])).bind (fun u' => some [u']) = _
  rw [a1]
  rfl
end Go.Proofs.Ytmgggbgejdkamaa

/- What is reckoned over all shapes and axes: where a number goes when it is summed. -/
namespace Go.Proofs.Ytmgggbgejdkamaa
set_option maxRecDepth 20000
open Go.RowKit Go.Am

def stpA (xs : List Int) (a : Nat) : Int := (strides xs).getD a 0
def blkA (xs : List Int) (a : Nat) : Int := stpA xs a * xs.getD a 0
def sumI (xs : List Int) (a k : Nat) : Int := (k : Int).tdiv (blkA xs a) * stpA xs a + (k : Int).tmod (stpA xs a)
def sumS (xs : List Int) (a k : Nat) : Int := idxTo (wo xs a) (wo (places xs k) a) (wo xs a).length
def cntM (xs : List Int) : Nat := (cntTo xs xs.length).toNat
def sumChk (xs : List Int) : Bool := (List.range xs.length).all fun a => shapeOk (wo xs a) && ((cntTo xs xs.length).tdiv (xs.getD a 0) == cntTo (wo xs a) (wo xs a).length) && decide (blkA xs a ≤ 64) && decide (1 ≤ blkA xs a) &&
  (List.range (cntM xs)).all fun k => decide (0 ≤ sumI xs a k) && decide (sumI xs a k < cntTo (wo xs a) (wo xs a).length) && (sumI xs a k == sumS xs a k) && decide (0 ≤ (k : Int).tdiv (blkA xs a) * stpA xs a) && decide ((k : Int).tdiv (blkA xs a) * stpA xs a ≤ 64)
theorem sumChk_2 : shapes2.all sumChk = true := by kernel_rfl
theorem sumChk_31 : (shapes3 1).all sumChk = true := by kernel_rfl
theorem sumChk_32 : (shapes3 2).all sumChk = true := by kernel_rfl
theorem sumChk_33 : (shapes3 3).all sumChk = true := by kernel_rfl
theorem sumChk_34 : (shapes3 4).all sumChk = true := by kernel_rfl
structure SumFacts (xs : List Int) (a : Nat) : Prop where
  sh : shapeOk (wo xs a) = true
  cnt : (cntTo xs xs.length).tdiv (xs.getD a 0) = cntTo (wo xs a) (wo xs a).length
  blk : 1 ≤ blkA xs a ∧ blkA xs a ≤ 64
  at_ : ∀ k : Nat, (k : Int) < cntTo xs xs.length → (0 ≤ sumI xs a k ∧ sumI xs a k < cntTo (wo xs a) (wo xs a).length) ∧ sumI xs a k = sumS xs a k ∧ 0 ≤ (k : Int).tdiv (blkA xs a) * stpA xs a ∧ (k : Int).tdiv (blkA xs a) * stpA xs a ≤ 64
theorem sum_facts {xs : List Int} (hs : shapeOk xs = true) {a : Nat} (ha : a < xs.length) : SumFacts xs a := by
  have h := shape_all sumChk_2 sumChk_31 sumChk_32 sumChk_33 sumChk_34 hs
  unfold sumChk at h
  rw [List.all_eq_true] at h
  have h := h a (List.mem_range.2 ha)
  simp only [Bool.and_eq_true, decide_eq_true_eq, beq_iff_eq, List.all_eq_true] at h
  obtain ⟨⟨⟨⟨h1, h2⟩, h3⟩, h4⟩, h5⟩ := h
  have hc := cnt64 hs (Nat.le_refl _)
  refine ⟨h1, h2, ⟨h4, h3⟩, fun k hk => ?_⟩
  obtain ⟨⟨⟨⟨a1, a2⟩, a3⟩, a4⟩, a5⟩ := h5 k (List.mem_range.2 (by unfold cntM; omega))
  exact ⟨⟨a1, a2⟩, a3, a4, a5⟩

/-- Sums, number by number. -/
def smTo (xs zs : List Int) (a : Nat) : Nat → List Int
  | 0 => List.replicate (cntTo (wo xs a) (wo xs a).length).toNat 0
  | k + 1 => (smTo xs zs a k).set (sumI xs a k).toNat (IntKind.i64.wrap ((smTo xs zs a k).getD (sumI xs a k).toNat 0 + zs.getD k 0))
theorem smTo_length (xs zs : List Int) (a : Nat) : ∀ k, (smTo xs zs a k).length = (cntTo (wo xs a) (wo xs a).length).toNat
  | 0 => by simp [smTo]
  | k + 1 => by rw [smTo, List.length_set]; exact smTo_length xs zs a k
def told (xs zs : List Int) : TM := if tensorOk xs zs = true then (xs, zs, true) else noT
theorem told_t {xs zs : List Int} (h : tensorOk xs zs = true) : told xs zs = (xs, zs, true) := if_pos h
theorem told_f {xs zs : List Int} (h : tensorOk xs zs = false) : told xs zs = noT := if_neg (by rw [h]; exact Bool.false_ne_true)
theorem told_len (xs zs : List Int) : (told xs zs).1.length ≤ 3 ∧ (told xs zs).2.1.length ≤ 64 := by
  rcases tensor_or xs zs with ⟨ht, hx, hz⟩ | ht
  · rw [told_t ht]; exact ⟨hx, hz.2⟩
  · rw [told_f ht]; exact ⟨Nat.zero_le _, Nat.zero_le _⟩
def sumM (xs zs : List Int) (i : Int) : TM := if tensorOk xs zs = true ∧ 0 ≤ i ∧ i < xs.length then told (wo xs i.toNat) (smTo xs zs i.toNat zs.length) else noT
theorem sumM_t {xs zs : List Int} {a : Nat} (h : tensorOk xs zs = true) (ha : a < xs.length) : sumM xs zs a = told (wo xs a) (smTo xs zs a zs.length) := by
  unfold sumM; rw [if_pos ⟨h, by omega, by omega⟩, Int.toNat_natCast]
theorem sumM_f1 {xs zs : List Int} {i : Int} (h : tensorOk xs zs = false) : sumM xs zs i = noT := if_neg (by rw [h]; exact fun h => Bool.false_ne_true h.1)
theorem sumM_f2 {xs zs : List Int} {i : Int} (h : ¬ (0 ≤ i ∧ i < xs.length)) : sumM xs zs i = noT := if_neg (fun h' => h h'.2)
theorem sumM_len (xs zs : List Int) (i : Int) : (sumM xs zs i).1.length ≤ 3 ∧ (sumM xs zs i).2.1.length ≤ 64 := by
  unfold sumM; split
  · exact told_len _ _
  · exact ⟨Nat.zero_le _, Nat.zero_le _⟩
end Go.Proofs.Ytmgggbgejdkamaa
