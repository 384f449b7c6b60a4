import Derived.Test.YtmgggbgejdkamaaM01x27
import Derived.Test.YtmgggbgejdkamaaM01x21
/- Chapter 4: what holds marks, in the law. -/
namespace Go.Proofs.Ytmgggbgejdkamaa
set_option maxRecDepth 20000
open Go.RowKit Go.Am
set_option linter.unusedSimpArgs false
attribute [local irreducible] aPlan aGet aIf aLoop aCall RetB NextB CallB CallG aCut aSet aAppend
theorem tot_le3 : ∀ (xss : List (List Int)), (∀ x ∈ xss, x.length ≤ 3) → tot xss ≤ 3 * xss.length
  | [], _ => by simp [tot]
  | x :: xss, h => by
    have h1 := tot_le3 xss fun y hy => h y (List.mem_cons_of_mem _ hy)
    have h2 := h x List.mem_cons_self
    have e : tot (x :: xss) = x.length + tot xss := by simp [tot]
    rw [e, List.length_cons]; omega
def sHeldS : CSpec := fnS (ι := (Nat × Nat × Nat) × Nat × List (List Int) × Nat × Int) (fun | ((c, d, e), n, fs, n', m) => [.agg [.sl c n ((marks m n).map (.int .i64)), .sl d fs.length ((marksII (m + n) fs).map (slI d)), .sl e n' ((marks (m + n + tot fs) n').map (.int .i64))], .int .i64 m]) (fun | (_, n, fs, n', m) => n + (fs.length + tot fs) + n' ≤ 1048576 ∧ 0 ≤ m ∧ m ≤ 1000000) (fun | (_, n, fs, n', m) => .int .i64 (m + n + tot fs + n'))
set_option maxHeartbeats 4000000 in
theorem heldIndexSum_sound : Sound Try.prog 26 sHeldS := by
  refine sound_of Try.func26 rfl (enters_of Try.func26 (by kernel_rfl) (by kernel_rfl)) ?_
  rintro ⟨⟨c, d, e⟩, n, fs, n', m⟩ hpre
  have hpre : n + (fs.length + tot fs) + n' ≤ 1048576 ∧ 0 ≤ m ∧ m ≤ 1000000 := hpre
  conv => whnf
  repeat' (first
    | (refine aIf_t ?_; conv => whnf)
    | (refine aIf_f ?_; conv => whnf)
    | (refine fun (_ : _ ≤ maxLen) => ?_; conv => whnf)
    | (refine get_nat0 (by omega) ?_; conv => whnf)
    | (refine get_int0 (by omega) ?_; conv => whnf)
    | (refine get_nat (by omega) ?_; conv => whnf)
    | (refine get_int (by omega) ?_; conv => whnf)
    | (refine aGet_in rfl ?_; conv => whnf)
    | (refine And.intro (And.intro (Int.le_refl _) (And.intro (by kernel_rfl) (And.intro rfl (by kernel_rfl)))) (And.intro (And.intro (by omega) (And.intro (bytes_le (b := 8) rfl (by omega)) (by omega))) ?_); conv => whnf)
    | (refine And.intro (by omega) ?_; conv => whnf)
    | (refine load_same ?_; conv => whnf)
    | (refine And.intro (by rw [List.length_map]; omega) ?_; conv => whnf)
    | (refine And.intro rfl (And.intro (List.cons_ne_nil _ _) ?_); conv => whnf)
    | (refine And.intro (Nat.le_of_ble_eq_true rfl) ?_; conv => whnf)
    | (refine callG_t ?_; conv => whnf)
    | (refine append_same ?_; conv => whnf)
    | (refine get_ii_n (by omega) ?_; conv => whnf)
    | (refine get_ii (by omega) ?_; conv => whnf)
    | (refine get_nd_n (by omega) rfl ?_; conv => whnf)
    | (refine get_nd (by omega) rfl ?_; conv => whnf)
    | (refine get_tn_n (by omega) rfl ?_; conv => whnf)
    | (refine get_tn (by omega) rfl ?_; conv => whnf)
    | (refine part_nd_n (by omega) ?_; conv => whnf)
    | (refine part_nd (by omega) ?_; conv => whnf)
    | (refine part_tn_n (by omega) ?_; conv => whnf)
    | (refine part_tn (by omega) ?_; conv => whnf)
    | (refine And.intro (pureL_ii _ _) ?_; conv => whnf)
    | (refine And.intro (pureL_nd _ _) ?_; conv => whnf)
    | (refine And.intro (pureL_tn _ _) ?_; conv => whnf)
    | (refine cut_ii rfl ?_; conv => whnf)
    | (refine cut_nd rfl ?_; conv => whnf)
    | (refine cut_tn rfl ?_; conv => whnf)
    | (refine get_ml_n (by omega) ?_; conv => whnf)
    | (refine get_ml (by omega) ?_; conv => whnf)
    | (refine And.intro (pureL_ml _) ?_; conv => whnf)
    | (refine cut_ml rfl ?_; conv => whnf)
    | (refine And.intro (And.intro (Int.le_refl _) (And.intro (by kernel_rfl) (And.intro rfl (by kernel_rfl)))) (And.intro (And.intro (by omega) (And.intro (bytes_le (b := 24) rfl (by omega)) (by omega))) ?_); conv => whnf)
    | (refine And.intro (And.intro (Int.le_refl _) (And.intro (by kernel_rfl) (And.intro rfl (by kernel_rfl)))) (And.intro (And.intro (by omega) (And.intro (bytes_le (b := 48) rfl (by omega)) (by omega))) ?_); conv => whnf)
    | (refine And.intro rfl (And.intro rfl (And.intro (by rw [fillC_length (by omega)]; omega) ?_)); conv => whnf)
    | (refine And.intro rfl (And.intro rfl (And.intro (by rw [fillF_length (ndO_length _) rfl (by omega)]; omega) ?_)); conv => whnf)
    | (refine And.intro rfl (And.intro rfl (And.intro (by rw [fillF_length (tnO_length _) rfl (by omega)]; omega) ?_)); conv => whnf)
    | (refine And.intro (le_fillF_len (ndO_length _) rfl (by omega)) ?_; conv => whnf)
    | (refine And.intro (le_fillF_len (tnO_length _) rfl (by omega)) ?_; conv => whnf)
    | (refine set_fillC (by omega) (by omega) ?_; conv => whnf)
    | (refine set_fillF (ndO_length _) (by omega) rfl ?_; conv => whnf)
    | (refine set_fillF (tnO_length _) (by omega) rfl ?_; conv => whnf)
    | (refine getb_n (by omega) ?_; conv => whnf)
    | (refine getb_n0 (by omega) ?_; conv => whnf)
    | (refine setb_n ?_ (by omega); conv => whnf)
    | (refine cut_bools ?_; conv => whnf)
    | (refine cut_marksII rfl ?_; conv => whnf)
    | (refine heldIntSS_call rfl (by omega) ?_; conv => whnf)
    | (refine And.intro (ond_fit (by omega) (Nat.le_of_ble_eq_true rfl)) ?_; conv => whnf)
    | (refine set_ond (by omega) (Nat.le_of_ble_eq_true rfl) ⟨_, rfl⟩ (fun _ _ _ _ => ?_); conv => whnf)
    | (refine get_oi_n (by omega) ?_; conv => whnf)
    | (refine get_ond_n (by omega) rfl ?_; conv => whnf)
    | (refine get_otn_n (by omega) rfl ?_; conv => whnf)
    | (refine takeN_in ?_; conv => whnf)
    | (refine And.intro (pureL_ints _ _) ?_; conv => whnf)
    | (refine And.intro (pureL_take _ _ _) ?_; conv => whnf)
    | (refine And.intro (pureL_cut _ _ _ _) ?_; conv => whnf)
    | (refine cut_ints ?_; conv => whnf)
    | (refine cut_marks ?_; conv => whnf)
    | (refine cut_all rfl (scalL_ints _ _) ?_; conv => whnf)
    | (refine cut_all (by simp only [List.length_map]; omega) (scalL_ints _ _) ?_; conv => whnf)
    | (refine And.intro rfl (And.intro rfl (And.intro (by first | omega | (rw [List.length_map]; omega)) ?_)); conv => whnf)
    | (refine set_nat ?_ (by omega); conv => whnf)
    | (refine set_int ?_ (by omega); conv => whnf)
    | (refine set_bool ?_ (by omega); conv => whnf)
    | (refine set_force ?_; conv => whnf)
    | (refine get_bool0 (by omega) ?_; conv => whnf)
    | (refine And.intro (And.intro (Int.le_refl _) (And.intro (by kernel_rfl) (And.intro rfl (by kernel_rfl)))) (And.intro (And.intro (by omega) (And.intro (bytes_le (b := 1) rfl (by omega)) (by omega))) ?_); conv => whnf)
    | (refine held_marks_call rfl (by omega) ?_; conv => whnf)
    | (refine And.intro (And.intro (by kernel_rfl) (And.intro rfl (Nat.le_of_ble_eq_true rfl))) ?_; conv => whnf)
    | (refine And.intro (And.intro (by kernel_rfl) (by kernel_rfl)) ?_; conv => whnf)
    | (refine And.intro (by kernel_rfl) ?_; conv => whnf)
    | (refine aIf_tt (by assumption) ?_; conv => whnf)
    | (refine aIf_ff (by assumption) ?_; conv => whnf)
    | refine aIf_eqt ?_
    | refine aIf_eqf ?_
    | refine aIf_not ?_
    | (refine aIf_bself ?_; conv => whnf)
    | (refine aIf_beself ?_; conv => whnf)
    | (refine aIf_iself ?_; conv => whnf)
    | (refine aIf_decself ?_; conv => whnf)
    | (refine aIf_dec (fun _ => ?_) (fun _ => ?_) <;> conv => whnf)
    | (refine aIf_beq (fun _ => ?_) (fun _ => ?_) <;> conv => whnf)
    | (refine aIf_bne (fun _ => ?_) (fun _ => ?_) <;> conv => whnf)
    | (refine aIf_bbne (fun _ => ?_) (fun _ => ?_) <;> conv => whnf)
    | (refine aIf_bbeq (fun _ => ?_) (fun _ => ?_) <;> conv => whnf)
    | (refine aIf_in (fun _ => ?_) (fun _ => ?_) <;> conv => whnf))
  all_goals (first | (exfalso; omega) | skip)
  exact retS rfl rfl
theorem heldIndexSum_call {c d e n n' k1 k2 k3 : Nat} {fs : List (List Int)} {m : Int} {env : List AV} {rows : List Row} {ctr low : Nat} {k : AV → St → Prop} (e1 : k1 = n) (e2 : k2 = fs.length) (e3 : k3 = n') (hpre : n + (fs.length + tot fs) + n' ≤ 1048576 ∧ 0 ≤ m ∧ m ≤ 1000000) (h : k (.int .i64 (m + n + tot fs + n')) ⟨env, rows, ctr + 1, low⟩) :
    CallB Try.prog 26 ⟨env, rows, ctr, low⟩ [.agg [.sl c k1 ((marks m n).map (.int .i64)), .sl d k2 ((marksII (m + n) fs).map (slI d)), .sl e k3 ((marks (m + n + tot fs) n').map (.int .i64))], .int .i64 m] k := by
  subst e1; subst e2; subst e3
  exact callS_in heldIndexSum_sound ((c, d, e), k1, fs, k3, m) hpre rfl h
end Go.Proofs.Ytmgggbgejdkamaa

/- Chapter 5: OrdersOf in the law. -/
namespace Go.Proofs.Ytmgggbgejdkamaa
set_option maxRecDepth 20000
open Go.RowKit Go.Am
set_option linter.unusedSimpArgs false
attribute [local irreducible] aPlan aGet aIf aLoop aCall RetB NextB CallB CallG aCut aSet aAppend
theorem cut_marks3 {f : Nat} {t tt : TypeId} {L : L3} {m : Int} {n : Nat} {k : List AV → Prop} (hn : n = L.length) (hk : k ((marks3 m L).map (sl2 0))) : aCut (f + 3) ((marks3 m L).map (own2 t tt)) 0 (n * 1) k := cut_l3 (by rw [hn, marks3_length]) hk
theorem held3_call {c n : Nat} {L : L3} {m : Int} {env : List AV} {rows : List Row} {ctr low : Nat} {k : AV → St → Prop} (hn : n = L.length) (hpre : l3P L ∧ 0 ≤ m ∧ m ≤ 1000000) (h : k (.int .i64 (m + tot3 L)) ⟨env, rows, ctr + 1, low⟩) :
    CallB Try.prog 43 ⟨env, rows, ctr, low⟩ [.sl c n ((marks3 m L).map (sl2 c)), .int .i64 m] k := by
  subst hn
  exact callS_in held3_sound (c, L, m) hpre rfl h
theorem eqIntSSS_call {c d : Nat} {L M : L3} {env : List AV} {rows : List Row} {ctr low : Nat} {k : AV → St → Prop} (h : k (.bool (decide (L = M))) ⟨env, rows, ctr + 1, low⟩) :
    CallB Try.prog 41 ⟨env, rows, ctr, low⟩ [.sl c L.length (L.map (sl2 c)), .sl d M.length (M.map (sl2 d))] k := callS_in eqIntSSS_sound (c, L, d, M) trivial rfl h
/-- All orders, or none of what is no index sum. -/
def orA (S : Sm) : L3 := orM S.2.1.length S
theorem l5All_2s : Sound Try.prog 84 (sAll 2) := l5All_2 l5All_1
theorem l5All_3s : Sound Try.prog 84 (sAll 3) := l5All_3 l5All_2s
theorem l5All_4s : Sound Try.prog 84 (sAll 4) := l5All_4 l5All_3s
theorem orders_2s : Sound Try.prog 40 (sOrs 2) := orders_2 orders_1
theorem orders_3s : Sound Try.prog 40 (sOrs 3) := orders_3 orders_2s
theorem orders_4s : Sound Try.prog 40 (sOrs 4) := orders_4 orders_3s
theorem l5All_sumW {c d e : Nat} {zs o : List Int} {fs : List (List Int)} {env : List AV} {rows : List Row} {ctr low : Nat} {k : AV → St → Prop} (hs : sumP zs fs o) (h : k (.ref rows.length ctr 0 (orA (zs, fs, o)).length) ⟨env, rows ++ [⟨ctr, 23, 1, (orA (zs, fs, o)).map (own2 3 22)⟩], ctr + 1, low⟩) :
    CallB Try.prog 84 ⟨env, rows, ctr, low⟩ [.agg [.sl c zs.length (zs.map (.int .i64)), .sl d fs.length (fs.map (slI d)), .sl e o.length (o.map (.int .i64))]] k := by
  have h4 := hs.2.2.1
  have e0 : orA (zs, fs, o) = ords fs.length (zs, fs, o) := orM_t (S := (zs, fs, o)) hs
  rw [e0] at h
  have hok : okP zs fs o := okP_of hs
  have hc : fs.length = 1 ∨ fs.length = 2 ∨ fs.length = 3 ∨ fs.length = 4 := by omega
  rcases hc with hm | hm | hm | hm
  · rw [hm] at h; exact callR_in l5All_1 (c, zs, d, fs, e, o) ⟨hok, hm⟩ (protL_o3 _ _ _) h
  · rw [hm] at h; exact callR_in l5All_2s (c, zs, d, fs, e, o) ⟨hok, hm⟩ (protL_o3 _ _ _) h
  · rw [hm] at h; exact callR_in l5All_3s (c, zs, d, fs, e, o) ⟨hok, hm⟩ (protL_o3 _ _ _) h
  · rw [hm] at h; exact callR_in l5All_4s (c, zs, d, fs, e, o) ⟨hok, hm⟩ (protL_o3 _ _ _) h
theorem iOrdersOf_call {c d e : Nat} {zs o : List Int} {fs : List (List Int)} {env : List AV} {rows : List Row} {ctr low : Nat} {k : AV → St → Prop} (h : k (.ref rows.length ctr 0 (orA (zs, fs, o)).length) ⟨env, rows ++ [⟨ctr, 23, 1, (orA (zs, fs, o)).map (own2 3 22)⟩], ctr + 1, low⟩) :
    CallB Try.prog 40 ⟨env, rows, ctr, low⟩ [.agg [.sl c zs.length (zs.map (.int .i64)), .sl d fs.length (fs.map (slI d)), .sl e o.length (o.map (.int .i64))]] k := by
  by_cases hs : sumP zs fs o
  · have h4 := hs.2.2.1
    have hc : fs.length = 1 ∨ fs.length = 2 ∨ fs.length = 3 ∨ fs.length = 4 := by omega
    have e0 : orA (zs, fs, o) = orM fs.length (zs, fs, o) := rfl
    rw [e0] at h
    rcases hc with hm | hm | hm | hm
    · rw [hm] at h; exact callR_in orders_1 (c, zs, d, fs, e, o) (fun _ => hm) (protL_o3 _ _ _) h
    · rw [hm] at h; exact callR_in orders_2s (c, zs, d, fs, e, o) (fun _ => hm) (protL_o3 _ _ _) h
    · rw [hm] at h; exact callR_in orders_3s (c, zs, d, fs, e, o) (fun _ => hm) (protL_o3 _ _ _) h
    · rw [hm] at h; exact callR_in orders_4s (c, zs, d, fs, e, o) (fun _ => hm) (protL_o3 _ _ _) h
  · have e0 : orA (zs, fs, o) = orM 1 (zs, fs, o) := (orM_f (S := (zs, fs, o)) hs).trans (orM_f (S := (zs, fs, o)) hs).symm
    rw [e0] at h
    exact callR_in orders_1 (c, zs, d, fs, e, o) (fun hs' => absurd hs' hs) (protL_o3 _ _ _) h
def sOrdersOf : CSpec := fnR (ι := IS) 23 1 (fun | (c, zs, d, fs, e, o) => [.agg [.sl c zs.length (zs.map (.int .i64)), .sl d fs.length (fs.map (slI d)), .sl e o.length (o.map (.int .i64))]]) (fun _ => True) (fun | (_, zs, _, fs, _, o) => (orA (zs, fs, o)).length) (fun | (_, zs, _, fs, _, o) => (orA (zs, fs, o)).map (own2 3 22))
theorem sOrdersOf_sound : Sound Try.prog 39 sOrdersOf := by
  refine sound_of Try.func39 rfl (enters_of Try.func39 (by kernel_rfl) (by kernel_rfl)) ?_
  rintro ⟨c, zs, d, fs, e, o⟩ -
  by_cases hs : sumP zs fs o
  · skip
    conv => whnf
    repeat' (first
      | (refine l5All_sumW hs ?_; conv => whnf)
      | (refine load_same ?_; conv => whnf)
      | (refine And.intro rfl (And.intro (List.cons_ne_nil _ _) ?_); conv => whnf)
      | (refine And.intro (Nat.le_of_ble_eq_true rfl) ?_; conv => whnf)
      | (refine callG_t ?_; conv => whnf)
      | (refine append_same ?_; conv => whnf)
      | (refine And.intro (pureL_ii _ _) ?_; conv => whnf)
      | (refine sSumOk_call trivial ?_; conv => whnf)
      | (refine takeN_in ?_; conv => whnf)
      | (refine And.intro (pureL_ints _ _) ?_; conv => whnf)
      | (refine And.intro (by kernel_rfl) ?_; conv => whnf)
      | refine aIf_not ?_
      | (refine aIf_dec (fun _ => ?_) (fun _ => ?_) <;> conv => whnf))
    all_goals (first | contradiction | exact retR rfl (protL_o3 _ _ _) rfl rfl)
  · have hne : orA (zs, fs, o) = [] := orM_f (S := (zs, fs, o)) hs
    conv => whnf
    repeat' (first
      | (refine load_same ?_; conv => whnf)
      | (refine And.intro rfl (And.intro (List.cons_ne_nil _ _) ?_); conv => whnf)
      | (refine And.intro (Nat.le_of_ble_eq_true rfl) ?_; conv => whnf)
      | (refine callG_t ?_; conv => whnf)
      | (refine append_same ?_; conv => whnf)
      | (refine And.intro (pureL_ii _ _) ?_; conv => whnf)
      | (refine sSumOk_call trivial ?_; conv => whnf)
      | (refine takeN_in ?_; conv => whnf)
      | (refine And.intro (pureL_ints _ _) ?_; conv => whnf)
      | (refine And.intro (by kernel_rfl) ?_; conv => whnf)
      | refine aIf_not ?_
      | (refine aIf_dec (fun _ => ?_) (fun _ => ?_) <;> conv => whnf))
    all_goals (first | contradiction | exact retR rfl (protL_o3 3 22 []) (congrArg List.length hne).symm (congrArg (List.map (own2 3 22)) hne).symm)
theorem sOrdersOf_call {c d e : Nat} {zs o : List Int} {fs : List (List Int)} {env : List AV} {rows : List Row} {ctr low : Nat} {k : AV → St → Prop} (h : k (.ref rows.length ctr 0 (orA (zs, fs, o)).length) ⟨env, rows ++ [⟨ctr, 23, 1, (orA (zs, fs, o)).map (own2 3 22)⟩], ctr + 1, low⟩) :
    CallB Try.prog 39 ⟨env, rows, ctr, low⟩ [.agg [.sl c zs.length (zs.map (.int .i64)), .sl d fs.length (fs.map (slI d)), .sl e o.length (o.map (.int .i64))]] k := callR_in sOrdersOf_sound (c, zs, d, fs, e, o) trivial (protL_o3 _ _ _) h
theorem tot_two : ∀ (o : List (List Int)), (∀ p ∈ o, p.length = 2) → tot o = 2 * o.length
  | [], _ => rfl
  | p :: o, h => by
    have h1 := h p List.mem_cons_self
    have h2 := tot_two o fun q hq => h q (List.mem_cons_of_mem _ hq)
    unfold tot at h2 ⊢
    rw [List.map_cons, List.sum_cons, h2, h1, List.length_cons]; omega
theorem tot3_le : ∀ (L : L3), (∀ o ∈ L, tot o ≤ 6) → tot3 L ≤ 6 * L.length
  | [], _ => Nat.le_refl _
  | o :: L, h => by
    have h1 := h o List.mem_cons_self
    have h2 := tot3_le L fun q hq => h q (List.mem_cons_of_mem _ hq)
    unfold tot3 at h2 ⊢
    rw [List.map_cons, List.sum_cons, List.length_cons]; omega
theorem orA_P (S : Sm) : l3P (orA S) ∧ (orA S).length ≤ 18 ∧ tot3 (orA S) ≤ 108 := by
  have hl : (orA S).length ≤ 18 ∧ ∀ o ∈ orA S, o.length ≤ 3 ∧ tot o ≤ 6 := by
    by_cases hs : sumP S.1 S.2.1 S.2.2
    · have h4 := hs.2.2.1
      have e : orA S = ords S.2.1.length S := orM_t hs
      rw [e]
      refine ⟨?_, fun o ho => ?_⟩
      · have h1 := ords_cnt S.2.1.length S h4.2 rfl
        refine Nat.le_trans h1 ?_
        match S.2.1.length, h4 with
        | 1, _ => exact Nat.le_of_ble_eq_true rfl
        | 2, _ => exact Nat.le_of_ble_eq_true rfl
        | 3, _ => exact Nat.le_of_ble_eq_true rfl
        | 4, _ => exact Nat.le_of_ble_eq_true rfl
      · obtain ⟨h1, h2⟩ := ords_len S.2.1.length S rfl o ho
        have := tot_two o h2
        omega
    · have e : orA S = [] := orM_f hs
      rw [e]
      exact ⟨Nat.zero_le _, fun o ho => nomatch ho⟩
  have h3 := tot3_le (orA S) fun o ho => (hl.2 o ho).2
  refine ⟨⟨by omega, fun k hk => ?_, by omega⟩, hl.1, by omega⟩
  have := (hl.2 _ (mem_getD (d := ([] : List (List Int))) hk)).1
  omega
end Go.Proofs.Ytmgggbgejdkamaa
