import Derived.Test.YtmgggbgejdkamaaM01x25
import Derived.Test.YtmgggbgejdkamaaM01x15
import Derived.Test.YtmgggbgejdkamaaM01x14
import Derived.Test.YtmgggbgejdkamaaM01x13
/- Chapter 4: WithOrder of the model. -/
namespace Go.Proofs.Ytmgggbgejdkamaa
set_option maxRecDepth 20000
open Go.RowKit Go.Am
set_option linter.unusedSimpArgs false
attribute [local irreducible] aPlan aGet aIf aLoop aCall RetB NextB CallB CallG aCut aSet aAppend
/-- The factors with the first k of them in their new order. -/
def wk (fs : List (List Int)) (ax : List Int) (k : Nat) : List (List Int) := (pk fs ax).take k ++ fs.drop k
theorem wk_length {fs : List (List Int)} {ax : List Int} {k : Nat} (hl : ax.length = fs.length) (hk : k ≤ fs.length) : (wk fs ax k).length = fs.length := by
  unfold wk; rw [List.length_append, List.length_take, List.length_drop, pk_length]; omega
theorem wk_next {fs : List (List Int)} {ax : List Int} {k : Nat} (hl : ax.length = fs.length) (hk : k < fs.length) : (wk fs ax k).set k (fs.getD (ax.getD k 0).toNat []) = wk fs ax (k + 1) := by
  have hpl := pk_length fs ax
  refine getD_extG (d := []) (by rw [List.length_set, wk_length hl (by omega), wk_length hl hk]) fun j hj => ?_
  rw [wk_length hl hk] at hj
  rw [getD_setG (by rw [wk_length hl (by omega)]; exact hk)]
  have g1 : ∀ m, (wk fs ax m).getD j [] = if j < m then (pk fs ax).getD j [] else fs.getD j [] := fun m => by
    unfold wk
    by_cases hjm : j < m
    · rw [if_pos hjm]
      simp only [List.getD]
      rw [List.getElem?_append_left (by rw [List.length_take]; omega), List.getElem?_take, if_pos hjm]
    · rw [if_neg hjm]
      simp only [List.getD]
      rw [List.getElem?_append_right (by rw [List.length_take]; omega), List.getElem?_drop, List.length_take]
      congr 2; omega
  rw [g1, g1]
  split
  · rename_i e
    subst e
    rw [if_pos (by omega), pk_getD (by omega)]
  · rename_i e
    by_cases hjk : j < k
    · rw [if_pos hjk, if_pos (by omega)]
    · rw [if_neg hjk, if_neg (by omega)]
theorem wk_all {fs : List (List Int)} {ax : List Int} {k : Nat} (hl : ax.length = fs.length) (hk : k = fs.length) : wk fs ax k = pk fs ax := by
  have hpl := pk_length fs ax
  unfold wk
  rw [List.drop_of_length_le (by omega), List.append_nil, List.take_of_length_le (by omega)]
theorem set_own {t : TypeId} {l : List (List Int)} {k : Nat} {u : AV} {K : List AV → Prop} (h : k < l.length) (hK : K ((l.map (ownI t)).set (0 + (k : Int).toNat * 1) u)) : aSet (l.map (ownI t)) (0 + (k : Int).toNat * 1) [u] K := set_one (by simp; omega) hK
set_option maxHeartbeats 4000000 in
theorem sWithOrder_sound : Sound Try.prog 58 sWithOrder := by
  refine sound_of Try.func58 rfl (enters_of Try.func58 (by kernel_rfl) (by kernel_rfl)) ?_
  rintro ⟨⟨c, zs, d, fs, e, o⟩, g, ax⟩ -
  have hmax : maxLen = 9223372036854775807 := rfl
  by_cases h : sumP zs fs o
  · have h4 := h.2.2.1
    by_cases hl : ax.length = fs.length
    · have hl' : (ax.length : Int) = fs.length := by omega
      by_cases hp : difP ax fs.length
      · have hp' : difP ax ax.length := by rw [hl']; exact hp
        have hin := difP_in hp
        have hls := fun (j : Nat) (hj : j < fs.length) => (lettersP_k h.2.2.2.2.1 hj).1
        have hz5 := h.1
        have ho3 := h.2.2.2.1.1
        have hcp : zs.length ≤ 5 ∧ o.length ≤ 3 ∧ fs.length ≤ 4 ∧ ∀ k, k < fs.length → (fs.getD k []).length ≤ 3 := ⟨hz5, ho3, h4.2, hls⟩
        conv => whnf
        repeat' (first
          | (refine plan_in (id := 7) [0, 1, 2, 3, 4, 5, 6, 7, 8, 9, 10, 11, 12, 13] (by kernel_rfl) (by kernel_rfl) ?_; conv => whnf)
          | (refine aIf_t ?_; conv => whnf)
          | (refine aIf_f ?_; conv => whnf)
          | (refine fun (_ : _ ≤ maxLen) => ?_; conv => whnf)
          | (refine aGet_in rfl ?_; conv => whnf)
          | (refine And.intro (by omega) ?_; conv => whnf)
          | (refine load_same ?_; conv => whnf)
          | (refine And.intro rfl (And.intro (List.cons_ne_nil _ _) ?_); conv => whnf)
          | (refine And.intro (Nat.le_of_ble_eq_true rfl) ?_; conv => whnf)
          | (refine callG_t ?_; conv => whnf)
          | (refine append_same ?_; conv => whnf)
          | (refine And.intro (pureL_ii _ _) ?_; conv => whnf)
          | (refine l4Each_call (by first | omega | assumption | (refine ⟨?_, ?_⟩ <;> first | assumption | omega) | (refine ⟨?_, ?_, ?_⟩ <;> first | assumption | omega)) ?_; conv => whnf)
          | (refine l4Copy_call (by assumption) ?_; conv => whnf)
          | (refine sSumOk_call trivial ?_; conv => whnf)
          | (refine takeN_in ?_; conv => whnf)
          | (refine And.intro (pureL_ints _ _) ?_; conv => whnf)
          | (refine set_force ?_; conv => whnf)
          | (refine And.intro (by kernel_rfl) ?_; conv => whnf)
          | refine aIf_eqf ?_
          | refine aIf_not ?_
          | (refine aIf_dec (fun _ => ?_) (fun _ => ?_) <;> conv => whnf))
        all_goals (first | (exfalso; omega) | contradiction | skip)
        refine loop_ut (ι := Nat) [false, true, true, false, true, false, true, true, false, false, false, false, false, false, false, false, false, false, false, false, false, false, false, false, false, false, false, false, false, false, false, false, false, false, false, false, false, false, false, false, false, false, false, false, false, false, false] (fun k => [(7, .int .i64 k)]) (fun k => [(6, (wk fs ax k).map (ownI 3))]) (fun k => k ≤ ax.length) (fun k => ax.length - k) (0) (Nat.zero_le _) ?_ ?_
        · conv => whnf
          refine St.le.to ?_
          conv => whnf
          repeat' (first
            | exact trivial
            | exact rfl
            | exact pureL_ints _ _
            | exact Or.inl (And.intro rfl rfl)
            | exact le_ints rfl
            | exact pureL_ii _ _
            | exact Or.inl (And.intro (pureL_oi _ _) rfl)
            | refine Or.inr ?_
            | refine And.intro ?_ ?_
            | exact Nat.le_of_ble_eq_true rfl)
        · rintro k hk
          have hk : k ≤ ax.length := hk
          have hwl := wk_length (k := k) hl (by omega)
          by_cases hlt : k < ax.length
          · have hi := hin k hlt
            have h3 := hls (ax.getD k 0).toNat (by omega)
            have hwn := wk_next (k := k) hl (by omega)
            conv => whnf
            repeat' (first
              | (refine plan_in (id := 7) [0, 1, 2, 3, 4, 5, 6, 7, 8, 9, 10, 11, 12, 13] (by kernel_rfl) (by kernel_rfl) ?_; conv => whnf)
              | (refine fun (_ : _ ≤ maxLen) => ?_; conv => whnf)
              | (refine get_nat (by omega) ?_; conv => whnf)
              | (refine aGet_in rfl ?_; conv => whnf)
              | (refine And.intro (by omega) ?_; conv => whnf)
              | (refine load_same ?_; conv => whnf)
              | (refine l2Nums_call (by omega) ?_; conv => whnf)
              | (refine append_same ?_; conv => whnf)
              | (refine get_ii (by omega) ?_; conv => whnf)
              | (refine set_own (by omega) ?_; conv => whnf)
              | (refine takeN_in ?_; conv => whnf)
              | (refine And.intro (pureL_ints _ _) ?_; conv => whnf)
              | (refine And.intro rfl (And.intro rfl (And.intro (by first | omega | (rw [List.length_map]; omega)) ?_)); conv => whnf)
              | (refine set_force ?_; conv => whnf)
              | (refine aIf_dec (fun _ => ?_) (fun _ => ?_) <;> conv => whnf))
            all_goals (first | (exfalso; omega) | skip)
            refine next_ut (k + 1) (show ax.length - (k + 1) < ax.length - k by omega) (by exact (by omega : k + 1 ≤ ax.length)) ?_
            rw [← hwn]
            conv => whnf
            refine to_close 6 (0 + (k : Int).toNat * 1) 12 _ _ 1 3 _ _ rfl (get_setC (by simp; omega)) rfl (by decide) (Nat.zero_le _) (by decide) (by simp) ?_
            refine St.le.to ?_
            conv => whnf
            repeat' (first | exact le_setC (by simp) rfl (ownI_pure _) | refine And.intro ?_ ?_)
            repeat' (first
              | exact trivial
              | exact rfl
              | exact pureL_ints _ _
              | exact Or.inl (And.intro rfl rfl)
              | exact le_ints rfl
              | exact pureL_ii _ _
              | refine Or.inr ?_
              | refine And.intro ?_ ?_
              | exact Nat.le_of_ble_eq_true rfl
              | exact int_eq (by rw [IntWalk.i64_in _ (by omega)] <;> omega))
          · have he : k = fs.length := by omega
            have e := wk_all hl he
            conv => whnf
            repeat' (first
              | (refine plan_in (id := 7) [0, 1, 2, 3, 4, 5, 6, 7, 8, 9, 10, 11, 12, 13] (by kernel_rfl) (by kernel_rfl) ?_; conv => whnf)
              | (refine fun (_ : _ ≤ maxLen) => ?_; conv => whnf)
              | (refine get_nat (by omega) ?_; conv => whnf)
              | (refine aGet_in rfl ?_; conv => whnf)
              | (refine And.intro (by omega) ?_; conv => whnf)
              | (refine load_same ?_; conv => whnf)
              | (refine And.intro (Nat.le_of_ble_eq_true rfl) ?_; conv => whnf)
              | (refine l2Nums_call (by omega) ?_; conv => whnf)
              | (refine append_same ?_; conv => whnf)
              | (refine get_ii_n (by omega) ?_; conv => whnf)
              | (refine set_own (by omega) ?_; conv => whnf)
              | (refine takeN_in ?_; conv => whnf)
              | (refine set_force ?_; conv => whnf)
              | (refine And.intro (by kernel_rfl) ?_; conv => whnf)
              | (refine aIf_dec (fun _ => ?_) (fun _ => ?_) <;> conv => whnf))
            all_goals (first | (exfalso; omega) | skip)
            rw [e]
            exact retISB (woM_t ⟨h, hl, hp⟩) (decide_eq_true (show woP zs fs o ax from ⟨h, hl, hp⟩)).symm (by decide) (by decide) (by decide) rfl rfl rfl rfl (by rw [pk_length]; exact hl.symm) rfl
      · have hp' : ¬ difP ax ax.length := by rw [hl']; exact hp
        have hn : ¬ woP zs fs o ax := fun h' => hp h'.2.2
        conv => whnf
        repeat' (first
          | (refine plan_in (id := 7) [0, 1, 2, 3, 4, 5, 6, 7, 8, 9, 10, 11, 12, 13] (by kernel_rfl) (by kernel_rfl) ?_; conv => whnf)
          | (refine aIf_t ?_; conv => whnf)
          | (refine aIf_f ?_; conv => whnf)
          | (refine fun (_ : _ ≤ maxLen) => ?_; conv => whnf)
          | (refine aGet_in rfl ?_; conv => whnf)
          | (refine And.intro (by omega) ?_; conv => whnf)
          | (refine load_same ?_; conv => whnf)
          | (refine And.intro rfl (And.intro (List.cons_ne_nil _ _) ?_); conv => whnf)
          | (refine And.intro (Nat.le_of_ble_eq_true rfl) ?_; conv => whnf)
          | (refine callG_t ?_; conv => whnf)
          | (refine append_same ?_; conv => whnf)
          | (refine And.intro (pureL_ii _ _) ?_; conv => whnf)
          | (refine l4Each_call (by first | omega | assumption | (refine ⟨?_, ?_⟩ <;> first | assumption | omega) | (refine ⟨?_, ?_, ?_⟩ <;> first | assumption | omega)) ?_; conv => whnf)
          | (refine sSumOk_call trivial ?_; conv => whnf)
          | (refine takeN_in ?_; conv => whnf)
          | (refine And.intro (pureL_ints _ _) ?_; conv => whnf)
          | (refine set_force ?_; conv => whnf)
          | (refine And.intro (by kernel_rfl) ?_; conv => whnf)
          | refine aIf_eqf ?_
          | refine aIf_not ?_
          | (refine aIf_dec (fun _ => ?_) (fun _ => ?_) <;> conv => whnf))
        all_goals (first | (exfalso; omega) | contradiction | skip)
        exact retISB (woM_f hn) (decide_eq_false hn).symm (by decide) (by decide) (by decide) rfl rfl rfl rfl rfl rfl
    · have hn : ¬ woP zs fs o ax := fun h' => hl h'.2.1
      conv => whnf
      repeat' (first
        | (refine plan_in (id := 7) [0, 1, 2, 3, 4, 5, 6, 7, 8, 9, 10, 11, 12, 13] (by kernel_rfl) (by kernel_rfl) ?_; conv => whnf)
        | (refine aIf_t ?_; conv => whnf)
        | (refine aIf_f ?_; conv => whnf)
        | (refine fun (_ : _ ≤ maxLen) => ?_; conv => whnf)
        | (refine aGet_in rfl ?_; conv => whnf)
        | (refine And.intro (by omega) ?_; conv => whnf)
        | (refine load_same ?_; conv => whnf)
        | (refine And.intro rfl (And.intro (List.cons_ne_nil _ _) ?_); conv => whnf)
        | (refine And.intro (Nat.le_of_ble_eq_true rfl) ?_; conv => whnf)
        | (refine callG_t ?_; conv => whnf)
        | (refine append_same ?_; conv => whnf)
        | (refine And.intro (pureL_ii _ _) ?_; conv => whnf)
        | (refine l4Each_call (by first | omega | assumption | (refine ⟨?_, ?_⟩ <;> first | assumption | omega) | (refine ⟨?_, ?_, ?_⟩ <;> first | assumption | omega)) ?_; conv => whnf)
        | (refine sSumOk_call trivial ?_; conv => whnf)
        | (refine takeN_in ?_; conv => whnf)
        | (refine And.intro (pureL_ints _ _) ?_; conv => whnf)
        | (refine set_force ?_; conv => whnf)
        | (refine And.intro (by kernel_rfl) ?_; conv => whnf)
        | refine aIf_eqf ?_
        | refine aIf_not ?_
        | (refine aIf_dec (fun _ => ?_) (fun _ => ?_) <;> conv => whnf))
      all_goals (first | (exfalso; omega) | contradiction | skip)
      exact retISB (woM_f hn) (decide_eq_false hn).symm (by decide) (by decide) (by decide) rfl rfl rfl rfl rfl rfl
  · have hn : ¬ woP zs fs o ax := fun h' => h h'.1
    conv => whnf
    repeat' (first
      | (refine plan_in (id := 7) [0, 1, 2, 3, 4, 5, 6, 7, 8, 9, 10, 11, 12, 13] (by kernel_rfl) (by kernel_rfl) ?_; conv => whnf)
      | (refine aIf_t ?_; conv => whnf)
      | (refine aIf_f ?_; conv => whnf)
      | (refine fun (_ : _ ≤ maxLen) => ?_; conv => whnf)
      | (refine aGet_in rfl ?_; conv => whnf)
      | (refine load_same ?_; conv => whnf)
      | (refine And.intro rfl (And.intro (List.cons_ne_nil _ _) ?_); conv => whnf)
      | (refine And.intro (Nat.le_of_ble_eq_true rfl) ?_; conv => whnf)
      | (refine callG_t ?_; conv => whnf)
      | (refine append_same ?_; conv => whnf)
      | (refine And.intro (pureL_ii _ _) ?_; conv => whnf)
      | (refine sSumOk_call trivial ?_; conv => whnf)
      | (refine takeN_in ?_; conv => whnf)
      | (refine And.intro (pureL_ints _ _) ?_; conv => whnf)
      | (refine set_force ?_; conv => whnf)
      | (refine And.intro (by kernel_rfl) ?_; conv => whnf)
      | refine aIf_eqf ?_
      | refine aIf_not ?_
      | (refine aIf_dec (fun _ => ?_) (fun _ => ?_) <;> conv => whnf))
    all_goals (first | contradiction | skip)
    exact retISB (woM_f hn) (decide_eq_false hn).symm (by decide) (by decide) (by decide) rfl rfl rfl rfl rfl rfl
end Go.Proofs.Ytmgggbgejdkamaa

/- Chapter 4: an index sum as a law's argument. -/
namespace Go.Proofs.Ytmgggbgejdkamaa
set_option maxRecDepth 20000
open Go.RowKit Go.Am Go.WideShapes Go.ChangeShapes
theorem cell_sm3 : Try.prog.cellsOf 25 = 3 := by kernel_rfl
theorem sumFs : fieldsAre Try.prog 25 [(22, 0), (23, 1), (22, 2)] = true := by kernel_rfl
theorem structSm : ∃ fs, Try.prog.underlying 25 = some (.struct fs) := by
  have h := sumFs
  unfold fieldsAre at h
  split at h
  · exact ⟨_, by assumption⟩
  · cases h
theorem argS {av : AV} (h : ArgR Try.prog 25 av) : ∃ (zs : List Int) (fs : List (List Int)) (o : List Int), av = .agg [.sl 1 zs.length (zs.map (.int .i64)), .sl 1 fs.length (fs.map (slI 1)), .sl 1 o.length (o.map (.int .i64))] := by
  obtain ⟨fs, hu⟩ := structSm
  unfold ArgR at h
  rw [hu] at h
  obtain ⟨us, rfl, h⟩ := h
  obtain ⟨hl, hf⟩ := fields_ok sumFs h
  rw [cell_sm3] at hl
  match us, hl with
  | [a, b, c], _ =>
    have h0 := hf (22, 0) (by simp)
    have h1 := hf (23, 1) (by simp)
    have h2 := hf (22, 2) (by simp)
    simp only [cell_iis1, cell_ints1] at h0 h1 h2
    obtain ⟨zs, e0, -⟩ := cellsInts uInts uInt h0
    obtain ⟨xss, e1, -⟩ := cells_slice (f := fun xs => [slI 1 xs]) (q := fun _ => True) uIIs h1 fun us hus => by
      obtain ⟨zs, e, -⟩ := cellsInts uInts uInt hus
      exact ⟨zs, e, trivial⟩
    obtain ⟨o, e2, -⟩ := cellsInts uInts uInt h2
    have em := flat_one (slI 1) xss
    simp at e0 e1 e2
    exact ⟨zs, xss, o, by rw [e0, e1, e2, em]⟩
end Go.Proofs.Ytmgggbgejdkamaa

/- Chapter 3: lists of lists that hold marks. -/
namespace Go.Proofs.Ytmgggbgejdkamaa
set_option maxRecDepth 20000
open Go.RowKit Go.Am
set_option linter.unusedSimpArgs false
attribute [local irreducible] aPlan aGet aIf aLoop aCall RetB NextB CallB CallG aCut aSet aAppend
theorem heldIntSS_sound : Sound Try.prog 46 (fnS (ι := Nat × List (List Int) × Int) (fun | (c, xss, m) => [.sl c xss.length ((marksII m xss).map (slI c)), .int .i64 m]) (fun | (_, xss, m) => xss.length ≤ 1048576 ∧ tot xss ≤ 1048576 ∧ 0 ≤ m ∧ m ≤ 100000000000) (fun | (_, xss, m) => .int .i64 (m + tot xss))) := by
  refine sound_of Try.func46 rfl (enters_of Try.func46 (by kernel_rfl) (by kernel_rfl)) ?_
  rintro ⟨c, xss, m⟩ hpre
  have hpre : xss.length ≤ 1048576 ∧ tot xss ≤ 1048576 ∧ 0 ≤ m ∧ m ≤ 100000000000 := hpre
  have hmax : maxLen = 9223372036854775807 := rfl
  have hML := marksII_length m xss
  conv => whnf
  repeat' (first
    | (refine append_same ?_; conv => whnf))
  refine loop_u (ι := Nat) [true, true, false, false, false, true, false, false, false, false, false, false, false, false, false, false, false, false, false, false, false] (fun k => [(1, .int .i64 (m + tot (xss.take k))), (5, .int .i64 k)]) (fun _ => []) (fun k => k ≤ xss.length) (fun k => xss.length - k) (0) (Nat.zero_le _) ?_ ?_
  · conv => whnf
    repeat' (first
      | exact trivial
      | exact rfl
      | exact pureL_ii _ _
      | refine And.intro ?_ ?_
      | exact Nat.le_of_ble_eq_true rfl
      | exact int_eq (Int.add_zero _).symm)
    all_goals exact int_eq (by simp [tot])
  · rintro k hk
    have hk : k ≤ xss.length := hk
    by_cases hlt : k < xss.length
    · have hg := marksII_getD m xss k hlt
      have hs := tot_succ hlt
      have hl := len_le_tot hlt
      have ht : tot (xss.take (k + 1)) ≤ tot xss := sum_take_le List.length xss (k + 1)
      have hgl : ((marksII m xss).getD k []).length = (xss.getD k []).length := by rw [hg, marks_length]
      conv => whnf
      repeat' (first
        | (refine fun (_ : _ ≤ maxLen) => ?_; conv => whnf)
        | (refine And.intro (by omega) ?_; conv => whnf)
        | (refine callG_t ?_; conv => whnf)
        | (refine append_same ?_; conv => whnf)
        | (refine get_ii_n (by omega) ?_; conv => whnf)
        | (refine And.intro (pureL_ints _ _) ?_; conv => whnf)
        | (refine aIf_dec (fun _ => ?_) (fun _ => ?_) <;> conv => whnf))
      all_goals (first | (exfalso; omega) | skip)
      refine held_call (m := m + tot (xss.take k)) (by omega) ?_
      rw [if_pos (by rw [hgl]; exact hg), hgl]
      conv => whnf
      repeat' (first
        | (refine append_same ?_; conv => whnf)
        | (refine aIf_dec (fun _ => ?_) (fun _ => ?_) <;> conv => whnf))
      all_goals (first | (exfalso; omega) | skip)
      refine next_u (k + 1) (show xss.length - (k + 1) < xss.length - k by omega) (by exact (by omega : k + 1 ≤ xss.length)) ?_
      conv => whnf
      repeat' (first
        | exact trivial
        | exact rfl
        | exact pureL_ii _ _
        | refine And.intro ?_ ?_
        | exact Nat.le_of_ble_eq_true rfl
        | exact int_eq (by omega)
        | exact int_eq (by rw [IntWalk.i64_in _ (by omega)] <;> omega))
      all_goals (first | exact int_eq (by omega) | skip)
    · have e := tot_all (show k = xss.length by omega)
      conv => whnf
      repeat' (first
        | (refine fun (_ : _ ≤ maxLen) => ?_; conv => whnf)
        | (refine And.intro (by omega) ?_; conv => whnf)
        | (refine callG_t ?_; conv => whnf)
        | (refine append_same ?_; conv => whnf)
        | (refine get_ii_n (by omega) ?_; conv => whnf)
        | (refine aIf_dec (fun _ => ?_) (fun _ => ?_) <;> conv => whnf))
      all_goals (first | (exfalso; omega) | skip)
      exact retS rfl (int_eq (by rw [e]))
theorem cut_marksII {f : Nat} {t : TypeId} {xss : List (List Int)} {m : Int} {n : Nat} {k : List AV → Prop} (hn : n = xss.length) (hk : k ((marksII m xss).map (slI 0))) : aCut (f + 2) ((marksII m xss).map (ownI t)) 0 (n * 1) k := cut_ii (by rw [hn, marksII_length]) hk
theorem heldIntSS_call {c n : Nat} {xss : List (List Int)} {m : Int} {env : List AV} {rows : List Row} {ctr low : Nat} {k : AV → St → Prop} (hn : n = xss.length) (hpre : xss.length ≤ 1048576 ∧ tot xss ≤ 1048576 ∧ 0 ≤ m ∧ m ≤ 100000000000) (h : k (.int .i64 (m + tot xss)) ⟨env, rows, ctr + 1, low⟩) :
    CallB Try.prog 46 ⟨env, rows, ctr, low⟩ [.sl c n ((marksII m xss).map (slI c)), .int .i64 m] k := by
  subst hn
  exact callS_in heldIntSS_sound (c, xss, m) hpre rfl h
end Go.Proofs.Ytmgggbgejdkamaa

/- Chapter 4: WithOrder in the law: its calls, and what holds marks. -/
namespace Go.Proofs.Ytmgggbgejdkamaa
set_option maxRecDepth 20000
open Go.RowKit Go.Am
set_option linter.unusedSimpArgs false
attribute [local irreducible] aPlan aGet aIf aLoop aCall RetB NextB CallB CallG aCut aSet aAppend
theorem sWithOrder_call {c d e g : Nat} {zs o ax : List Int} {fs : List (List Int)} {env : List AV} {rows : List Row} {ctr low : Nat} {k : AV → St → Prop} (h : k (.tup [.agg [.ref rows.length ctr 0 (woM zs fs o ax).1.length, .ref (rows.length + 1) ctr 0 (woM zs fs o ax).2.1.length, .ref (rows.length + 2) ctr 0 (woM zs fs o ax).2.2.length], .bool (decide (woP zs fs o ax))]) ⟨env, rows ++ [⟨ctr, 3, 1, (woM zs fs o ax).1.map (.int .i64)⟩, ⟨ctr, 22, 1, (woM zs fs o ax).2.1.map (ownI 3)⟩, ⟨ctr, 3, 1, (woM zs fs o ax).2.2.map (.int .i64)⟩], ctr + 1, low⟩) :
    CallB Try.prog 58 ⟨env, rows, ctr, low⟩ [.agg [.sl c zs.length (zs.map (.int .i64)), .sl d fs.length (fs.map (slI d)), .sl e o.length (o.map (.int .i64))], .sl g ax.length (ax.map (.int .i64))] k := callISB_in sWithOrder_sound ((c, zs, d, fs, e, o), g, ax) trivial h
theorem iWithOrder_call {c d e g : Nat} {zs o ax : List Int} {fs : List (List Int)} {env : List AV} {rows : List Row} {ctr low : Nat} {k : AV → St → Prop} (h : k (.tup [.agg [.ref rows.length ctr 0 (woM zs fs o ax).1.length, .ref (rows.length + 1) ctr 0 (woM zs fs o ax).2.1.length, .ref (rows.length + 2) ctr 0 (woM zs fs o ax).2.2.length], .bool (decide (woP zs fs o ax))]) ⟨env, rows ++ [⟨ctr, 3, 1, (woM zs fs o ax).1.map (.int .i64)⟩, ⟨ctr, 22, 1, (woM zs fs o ax).2.1.map (ownI 3)⟩, ⟨ctr, 3, 1, (woM zs fs o ax).2.2.map (.int .i64)⟩], ctr + 1, low⟩) :
    CallB Try.prog 60 ⟨env, rows, ctr, low⟩ [.agg [.sl c zs.length (zs.map (.int .i64)), .sl d fs.length (fs.map (slI d)), .sl e o.length (o.map (.int .i64))], .sl g ax.length (ax.map (.int .i64))] k := callISB_in iWithOrder_sound ((c, zs, d, fs, e, o), g, ax) trivial h
theorem tot_le3 : ∀ (xss : List (List Int)), (∀ x ∈ xss, x.length ≤ 3) → tot xss ≤ 3 * xss.length
  | [], _ => by simp [tot]
  | x :: xss, h => by
    have h1 := tot_le3 xss fun y hy => h y (List.mem_cons_of_mem _ hy)
    have h2 := h x List.mem_cons_self
    have e : tot (x :: xss) = x.length + tot xss := by simp [tot]
    rw [e, List.length_cons]; omega
theorem woM_size (zs : List Int) (fs : List (List Int)) (o ax : List Int) : isSize (woM zs fs o ax).1 (woM zs fs o ax).2.1 (woM zs fs o ax).2.2 ≤ 1000 := by
  by_cases h : woP zs fs o ax
  · rw [woM_t h]
    obtain ⟨h1, h2, h3⟩ := h
    have hin := difP_in h3
    have h4 := h1.2.2.1
    have hz := h1.1
    have ho := h1.2.2.2.1.1
    have hp : ∀ x ∈ pk fs ax, x.length ≤ 3 := fun x hx => by
      obtain ⟨a, ha, rfl⟩ := List.mem_map.1 hx
      obtain ⟨j, hj, rfl⟩ := List.mem_iff_getElem.1 ha
      have := hin j hj
      have e : ax.getD j 0 = ax[j] := by simp [List.getD, List.getElem?_eq_getElem hj]
      rw [e] at this
      exact (lettersP_k h1.2.2.2.2.1 (by omega)).1
    have ht := tot_le3 _ hp
    rw [pk_length] at ht
    show zs.length + ((pk fs ax).length + tot (pk fs ax)) + o.length ≤ 1000
    rw [pk_length]; omega
  · rw [woM_f h]; exact Nat.zero_le _
def sHeldS : CSpec := fnS (ι := (Nat × Nat × Nat) × Nat × List (List Int) × Nat × Int) (fun | ((c, d, e), n, fs, n', m) => [.agg [.sl c n ((marks m n).map (.int .i64)), .sl d fs.length ((marksII (m + n) fs).map (slI d)), .sl e n' ((marks (m + n + tot fs) n').map (.int .i64))], .int .i64 m]) (fun | (_, n, fs, n', m) => n + (fs.length + tot fs) + n' ≤ 1048576 ∧ 0 ≤ m ∧ m ≤ 1000000) (fun | (_, n, fs, n', m) => .int .i64 (m + n + tot fs + n'))
set_option maxHeartbeats 4000000 in
theorem heldIndexSum_sound : Sound Try.prog 26 sHeldS := by
  refine sound_of Try.func26 rfl (enters_of Try.func26 (by kernel_rfl) (by kernel_rfl)) ?_
  rintro ⟨⟨c, d, e⟩, n, fs, n', m⟩ hpre
  have hpre : n + (fs.length + tot fs) + n' ≤ 1048576 ∧ 0 ≤ m ∧ m ≤ 1000000 := hpre
  conv => whnf
  repeat' (first
    | (refine aGet_in rfl ?_; conv => whnf)
    | (refine And.intro rfl (And.intro (List.cons_ne_nil _ _) ?_); conv => whnf)
    | (refine callG_t ?_; conv => whnf)
    | (refine append_same ?_; conv => whnf)
    | (refine And.intro (pureL_ii _ _) ?_; conv => whnf)
    | (refine heldIntSS_call rfl (by omega) ?_; conv => whnf)
    | (refine And.intro (pureL_ints _ _) ?_; conv => whnf)
    | (refine held_marks_call rfl (by omega) ?_; conv => whnf)
    | (refine aIf_dec (fun _ => ?_) (fun _ => ?_) <;> conv => whnf))
  all_goals (first | (exfalso; omega) | skip)
  exact retS rfl rfl
theorem heldIndexSum_call {c d e n n' k1 k2 k3 : Nat} {fs : List (List Int)} {m : Int} {env : List AV} {rows : List Row} {ctr low : Nat} {k : AV → St → Prop} (e1 : k1 = n) (e2 : k2 = fs.length) (e3 : k3 = n') (hpre : n + (fs.length + tot fs) + n' ≤ 1048576 ∧ 0 ≤ m ∧ m ≤ 1000000) (h : k (.int .i64 (m + n + tot fs + n')) ⟨env, rows, ctr + 1, low⟩) :
    CallB Try.prog 26 ⟨env, rows, ctr, low⟩ [.agg [.sl c k1 ((marks m n).map (.int .i64)), .sl d k2 ((marksII (m + n) fs).map (slI d)), .sl e k3 ((marks (m + n + tot fs) n').map (.int .i64))], .int .i64 m] k := by
  subst e1; subst e2; subst e3
  exact callS_in heldIndexSum_sound ((c, d, e), k1, fs, k3, m) hpre rfl h
end Go.Proofs.Ytmgggbgejdkamaa
