import Derived.Test.YtmgggbgejdkamaaM01x19
/- Chapter 5: MergeOf of the program, whole. -/
namespace Go.Proofs.Ytmgggbgejdkamaa
set_option maxRecDepth 20000
open Go.RowKit Go.Am
set_option linter.unusedSimpArgs false
attribute [local irreducible] aPlan aGet aIf aLoop aCall RetB NextB CallB CallG aCut aSet aAppend Held
theorem lettersLeft_calln {c d e g g' n n' : Nat} {zs o R : List Int} {fs : List (List Int)} {M M' : ML} {env : List AV} {rows : List Row} {ctr low : Nat} {k : AV → St → Prop} (hpre : zs.length ≤ 5) (hn : n = M.length) (hn' : n' = M'.length) (hR : llTo (M.map Prod.snd) (M'.map Prod.snd) o zs.length = R) (h : k (.ref rows.length ctr 0 R.length) ⟨env, rows ++ [⟨ctr, 3, 1, R.map (.int .i64)⟩], ctr + 1, low⟩) :
    CallB Try.prog 73 ⟨env, rows, ctr, low⟩ [.agg [.sl c zs.length (zs.map (.int .i64)), .sl d fs.length (fs.map (slI d)), .sl e o.length (o.map (.int .i64))], .sl g n (M.map mlC), .sl g' n' (M'.map mlC)] k := by
  subst hR; subst hn; subst hn'
  exact callL_in lettersLeft_sound ((c, zs, d, fs, e, o), g, M, g', M') hpre h
theorem withOwn_callW {c d e n : Nat} {zs o : List Int} {M : ML} {W : Sm} {env : List AV} {rows : List Row} {ctr low : Nat} {k : AV → St → Prop} (hpre : wolP zs (M.map Prod.snd) o) (hn : n = M.length) (hW : ownM zs (M.map Prod.snd) o = W) (h : k (.agg [.ref rows.length ctr 0 W.1.length, .ref (rows.length + 1) ctr 0 W.2.1.length, .ref (rows.length + 2) ctr 0 W.2.2.length]) ⟨env, rows ++ [⟨ctr, 3, 1, W.1.map (.int .i64)⟩, ⟨ctr, 22, 1, W.2.1.map (ownI 3)⟩, ⟨ctr, 3, 1, W.2.2.map (.int .i64)⟩], ctr + 1, low⟩) :
    CallB Try.prog 74 ⟨env, rows, ctr, low⟩ [.agg [.sl c zs.length (zs.map (.int .i64)), .sl d n (M.map mlC), .sl e o.length (o.map (.int .i64))]] k := by
  subst hW; subst hn
  exact callIS_in withOwn_sound (c, zs, d, M, e, o) hpre h
def oM (d : Nat) (fs : List (List Int)) (L : List Int) : ML := L.map fun i => (d, fs.getD i.toNat [])
theorem oM_len (d : Nat) (fs : List (List Int)) (L : List Int) : (oM d fs L).length = L.length := List.length_map _
theorem oM_snd (d : Nat) (fs : List (List Int)) (a b : Int) : (oM d fs (abTo a b fs.length)).map Prod.snd = oth fs a b := by
  unfold oM oth
  rw [List.map_map, ← abTo_oth]; rfl
theorem oM_next {d : Nat} {fs : List (List Int)} {L : List Int} {k : Nat} (h : k < L.length) : (oM d fs (L.take k)).map mlC ++ [slI d (fs.getD (L.getD k 0).toNat [])] = (oM d fs (L.take (k + 1))).map mlC := by
  unfold oM
  rw [List.take_add_one, getD_eq (d := (0 : Int)) h, List.map_append, List.map_append]; rfl
theorem okP_w {zs o : List Int} {fs : List (List Int)} (h : okP zs fs o) : wolP zs fs o := by
  have h4 := h.f4
  refine ⟨h.z5, h4, fun k hk => ?_, by have := h.ol.1; omega, difP_in h.ol.2⟩
  have := h.fl _ (mem_getD (d := ([] : List Int)) hk)
  exact ⟨by have := this.1; omega, difP_in this.2⟩
theorem mgW_e {S : Sm} {a b : Int} (h : mgP S a b) : mgW S a b = ((own (mrg S a b)).1, (own (mrg S a b)).2.1, (own (mrg S a b)).2.2) := mgW_t h
theorem mgB_e {S : Sm} {a b : Int} (h : mgP S a b) : mgB S a b = ((own (pr S a b)).1, (own (pr S a b)).2.1, (own (pr S a b)).2.2) := mgB_t h
structure Kept (p : Prop) : Prop where
  out : p
theorem with4 {P1 P2 P3 P4 Q : Prop} (h : Kept P1 → Kept P2 → Kept P3 → Kept P4 → Q) (p1 : P1) (p2 : P2) (p3 : P3) (p4 : P4) : Q := h ⟨p1⟩ ⟨p2⟩ ⟨p3⟩ ⟨p4⟩
theorem to_at {s s' : St} (i : Nat) {r : Row} (_ : s.rows[i]? = some r) (h : s.to s') : s.to s' := h
def sMergeOf : CSpec := fnIS2B (ι := IS × Int × Int) 3 22 (fun | ((c, zs, d, fs, e, o), a, b) => [.agg [.sl c zs.length (zs.map (.int .i64)), .sl d fs.length (fs.map (slI d)), .sl e o.length (o.map (.int .i64))], .int .i64 a, .int .i64 b]) (fun _ => True) (fun | ((_, zs, _, fs, _, o), a, b) => mgW (zs, fs, o) a b) (fun | ((_, zs, _, fs, _, o), a, b) => mgB (zs, fs, o) a b) (fun | ((_, zs, _, fs, _, o), a, b) => decide (mgP (zs, fs, o) a b))
set_option maxHeartbeats 64000000 in
theorem iMergeOf_sound : Sound Try.prog 24 sMergeOf := by
  refine sound_of Try.func24 rfl (enters_of Try.func24 (by kernel_rfl) (by kernel_rfl)) ?_
  rintro ⟨⟨c, zs, d, fs, q, o⟩, a, b⟩ -
  have hmax : maxLen = 9223372036854775807 := rfl
  by_cases hs : sumP zs fs o
  · have hs5 := hs.1
    have hs4 := hs.2.2.1
    by_cases hb : 0 ≤ b ∧ b < fs.length
    · by_cases ha : 0 ≤ a ∧ a < b
      · have hrg : rng (zs, fs, o) a b := ⟨ha.1, ha.2, hb.2⟩
        conv => whnf
        repeat' (first
          | (refine plan_in (id := 3) [0, 1, 2, 3, 4, 5, 6, 7, 8, 9, 10, 11] (by kernel_rfl) (by kernel_rfl) ?_; conv => whnf)
          | (refine plan_in (id := 14) [0, 1, 2, 3, 4, 5, 6, 7, 8, 9] (by kernel_rfl) (by kernel_rfl) ?_; conv => whnf)
          | (refine aIf_t ?_; conv => whnf)
          | (refine aIf_f ?_; conv => whnf)
          | (refine fun (_ : _ ≤ maxLen) => ?_; conv => whnf)
          | (refine aGet_in rfl ?_; conv => whnf)
          | (refine And.intro (by omega) ?_; conv => whnf)
          | (refine load_same ?_; conv => whnf)
          | (refine And.intro rfl (And.intro (List.cons_ne_nil _ _) ?_); conv => whnf)
          | (refine And.intro (Nat.le_of_ble_eq_true rfl) ?_; conv => whnf)
          | (refine held_in (f := 74) ?_)
          | (refine callG_t ?_; conv => whnf)
          | (refine indexOk_call trivial ?_; conv => whnf)
          | (refine append_same ?_; conv => whnf)
          | (refine get_ii (by omega) ?_; conv => whnf)
          | (refine And.intro (pureL_ii _ _) ?_; conv => whnf)
          | (refine iSumOk_call trivial ?_; conv => whnf)
          | (refine allBut_call (by first | omega | assumption | (refine ⟨?_, ?_⟩ <;> first | assumption | omega) | (refine ⟨?_, ?_, ?_⟩ <;> first | assumption | omega)) ?_; conv => whnf)
          | (refine takeN_in ?_; conv => whnf)
          | (refine And.intro (pureL_ints _ _) ?_; conv => whnf)
          | (refine set_force ?_; conv => whnf)
          | (refine And.intro (And.intro (by kernel_rfl) (And.intro rfl (Nat.le_of_ble_eq_true rfl))) ?_; conv => whnf)
          | (refine And.intro (by kernel_rfl) ?_; conv => whnf)
          | refine aIf_eqf ?_
          | refine aIf_not ?_
          | (refine aIf_dec (fun _ => ?_) (fun _ => ?_) <;> conv => whnf))
        all_goals (first | (exfalso; omega) | contradiction | skip)
        have hL := fun (j : Nat) (hj : j < (abTo a b fs.length).length) => (abTo_in hj).1
        have hLl := abTo_len a b fs.length
        refine loop_u (ι := Nat) [false, false, false, true, false, false, true, true, false, true, true, false, false, false, false, false, false, false, false, false, false, false, false, false, false, false, false, false, false, false, false, false, false, false, false, false, false, false, false, false, false, false, false, false, false, false, false, false, false, false, false, true, true, true, false, false, false, false, false, false, false, false, false, false, false, false, false, false, false, false, false, false, false, false, false, false, false, false, false, false, false, false, false, false, false, false, false, false, false, false, false, false] (fun k => [(10, .ref 10 14 0 k), (53, .int .i64 k)]) (fun k => [(10, (oM d fs ((abTo a b fs.length).take k)).map mlC)]) (fun k => k ≤ (abTo a b fs.length).length) (fun k => (abTo a b fs.length).length - k) (0) (Nat.zero_le _) ?_ ?_
        · conv => whnf
          repeat' (first
            | exact trivial
            | exact rfl
            | exact pureL_ints _ _
            | exact Or.inl (And.intro rfl rfl)
            | exact le_ints rfl
            | exact Or.inl (And.intro (pureL_pair _ _ _ _ _ _) rfl)
            | exact pureL_ii _ _
            | refine Or.inr ?_
            | refine And.intro ?_ ?_
            | exact Nat.le_of_ble_eq_true rfl)
        · rintro k hk
          have hk : k ≤ (abTo a b fs.length).length := hk
          have htl : (oM d fs ((abTo a b fs.length).take k)).length = k := by rw [oM_len, List.length_take]; omega
          by_cases hlt : k < (abTo a b fs.length).length
          · have hi := hL k hlt
            conv => whnf
            repeat' (first
              | (refine plan_in (id := 3) [0, 1, 2, 3, 4, 5, 6, 7, 8, 9, 10, 11] (by kernel_rfl) (by kernel_rfl) ?_; conv => whnf)
              | (refine plan_in (id := 14) [0, 1, 2, 3, 4, 5, 6, 7, 8, 9] (by kernel_rfl) (by kernel_rfl) ?_; conv => whnf)
              | (refine get_nat0 (by omega) ?_; conv => whnf)
              | (refine aGet_in rfl ?_; conv => whnf)
              | (refine And.intro (by omega) ?_; conv => whnf)
              | (refine load_same ?_; conv => whnf)
              | (refine held_in (f := 74) ?_)
              | (refine callG_t ?_; conv => whnf)
              | (refine append_same ?_; conv => whnf)
              | (refine get_ii (by omega) ?_; conv => whnf)
              | (refine takeN_in ?_; conv => whnf)
              | (refine And.intro (And.intro (by kernel_rfl) (And.intro rfl (Nat.le_of_ble_eq_true rfl))) ?_; conv => whnf)
              | (refine aIf_dec (fun _ => ?_) (fun _ => ?_) <;> conv => whnf))
            all_goals (first | (exfalso; omega) | contradiction | skip)
            refine append_ll rfl (by rw [List.length_map]; exact htl.symm) rfl rfl (by omega) (Nat.zero_le _) ?_
            conv => whnf
            repeat' (first
              | (refine plan_in (id := 3) [0, 1, 2, 3, 4, 5, 6, 7, 8, 9, 10, 11] (by kernel_rfl) (by kernel_rfl) ?_; conv => whnf)
              | (refine plan_in (id := 14) [0, 1, 2, 3, 4, 5, 6, 7, 8, 9] (by kernel_rfl) (by kernel_rfl) ?_; conv => whnf)
              | (refine held_in (f := 74) ?_)
              | (refine append_same ?_; conv => whnf))
            refine next_u (k + 1) (show (abTo a b fs.length).length - (k + 1) < (abTo a b fs.length).length - k by omega) (by exact (by omega : k + 1 ≤ (abTo a b fs.length).length)) ?_
            conv => whnf
            repeat' (first | exact le_cells (oM_next hlt) (pureL_ml _) | refine And.intro ?_ ?_)
            repeat' (first
              | exact trivial
              | exact rfl
              | exact pureL_ints _ _
              | exact Or.inl (And.intro rfl rfl)
              | exact le_ints rfl
              | exact Or.inl (And.intro (pureL_pair _ _ _ _ _ _) rfl)
              | exact pureL_ii _ _
              | refine Or.inr ?_
              | refine And.intro ?_ ?_
              | exact Nat.le_of_ble_eq_true rfl
              | exact int_eq (by rw [IntWalk.i64_in _ (by omega)] <;> omega))
          · have he : k = (abTo a b fs.length).length := by omega
            subst he
            rw [List.take_length]
            conv => whnf
            repeat' (first
              | (refine plan_in (id := 3) [0, 1, 2, 3, 4, 5, 6, 7, 8, 9, 10, 11] (by kernel_rfl) (by kernel_rfl) ?_; conv => whnf)
              | (refine plan_in (id := 14) [0, 1, 2, 3, 4, 5, 6, 7, 8, 9] (by kernel_rfl) (by kernel_rfl) ?_; conv => whnf)
              | (refine get_nat0 (by omega) ?_; conv => whnf)
              | (refine aGet_in rfl ?_; conv => whnf)
              | (refine And.intro (by omega) ?_; conv => whnf)
              | (refine load_same ?_; conv => whnf)
              | (refine And.intro (Nat.le_of_ble_eq_true rfl) ?_; conv => whnf)
              | (refine held_in (f := 74) ?_)
              | (refine callG_t ?_; conv => whnf)
              | (refine append_same ?_; conv => whnf)
              | (refine get_ii_n (by omega) ?_; conv => whnf)
              | (refine And.intro (pureL_ii _ _) ?_; conv => whnf)
              | (refine takeN_in ?_; conv => whnf)
              | (refine And.intro (pureL_ints _ _) ?_; conv => whnf)
              | (refine And.intro (by kernel_rfl) ?_; conv => whnf)
              | (refine aIf_dec (fun _ => ?_) (fun _ => ?_) <;> conv => whnf))
            all_goals (first | (exfalso; omega) | contradiction | skip)
            refine cut_ml (M := [(d, fs.getD a.toNat []), (d, fs.getD b.toNat [])]) rfl ?_
            conv => whnf
            refine cut_ml (M := oM d fs (abTo a b fs.length)) (oM_len _ _ _).symm ?_
            conv => whnf
            refine lettersLeft_calln (M := [(d, fs.getD a.toNat []), (d, fs.getD b.toNat [])]) (M' := oM d fs (abTo a b fs.length)) (R := lfL zs fs o a b) hs5 rfl (oM_len _ _ _).symm (by rw [oM_snd]; exact llTo_lf fs o a b _) ?_
            by_cases hn3 : (lfL zs fs o a b).length ≤ 3
            · have hP : mgP (zs, fs, o) a b := ⟨hs, hrg, hn3⟩
              have eM : ((oM d fs (abTo a b fs.length)) ++ [(0, lfL zs fs o a b)]).map Prod.snd = (mrg (zs, fs, o) a b).2.1 := by rw [List.map_append, oM_snd]; rfl
              have hok := mrg_ok (S := (zs, fs, o)) (okP_of hs) hrg hn3
              have hw : wolP zs (((oM d fs (abTo a b fs.length)) ++ [(0, lfL zs fs o a b)]).map Prod.snd) o := by rw [eM]; exact okP_w hok
              have hw2 : wolP zs ([(d, fs.getD a.toNat []), (d, fs.getD b.toNat [])].map Prod.snd) (lfL zs fs o a b) := okP_w (pr_ok (S := (zs, fs, o)) (okP_of hs) hn3)
              conv => whnf
              repeat' (first
                | (refine plan_in (id := 3) [0, 1, 2, 3, 4, 5, 6, 7, 8, 9, 10, 11] (by kernel_rfl) (by kernel_rfl) ?_; conv => whnf)
                | (refine plan_in (id := 14) [0, 1, 2, 3, 4, 5, 6, 7, 8, 9] (by kernel_rfl) (by kernel_rfl) ?_; conv => whnf)
                | (refine fun (_ : _ ≤ maxLen) => ?_; conv => whnf)
                | (refine And.intro (by omega) ?_; conv => whnf)
                | (refine held_in (f := 74) ?_)
                | (refine append_same ?_; conv => whnf)
                | (refine takeN_in ?_; conv => whnf)
                | (refine set_force ?_; conv => whnf)
                | (refine aIf_dec (fun _ => ?_) (fun _ => ?_) <;> conv => whnf))
              all_goals (first | (exfalso; omega) | contradiction | skip)
              obtain ⟨W, eW⟩ : ∃ W, own (mrg (zs, fs, o) a b) = W := ⟨_, rfl⟩
              refine share_in2 (id := 13) (.one 0 (.one 2 (.one 3 (.one 6 (.qua 1 4 7 10 (.tri 4 7 10 (.tri 5 7 10 (.one 7 (.two 8 10 (.two 9 10 (.one 10 (.one 11 .nil)) (.one 9 (.one 11 .nil))) (.one 8 (.one 9 (.one 11 .nil))))) (.two 5 10 (.two 8 10 (.two 9 10 (.one 10 (.one 11 .nil)) (.one 9 (.one 11 .nil))) (.one 8 (.one 9 (.one 11 .nil)))) (.one 5 (.one 8 (.one 9 (.one 11 .nil))))) (.two 5 7 (.one 7 (.one 8 (.one 9 (.one 11 .nil)))) (.one 5 (.one 8 (.one 9 (.one 11 .nil)))))) (.two 4 10 (.two 5 10 (.two 8 10 (.two 9 10 (.one 10 (.one 11 .nil)) (.one 9 (.one 11 .nil))) (.one 8 (.one 9 (.one 11 .nil)))) (.one 5 (.one 8 (.one 9 (.one 11 .nil))))) (.one 4 (.one 5 (.one 8 (.one 9 (.one 11 .nil)))))) (.two 4 7 (.two 5 7 (.one 7 (.one 8 (.one 9 (.one 11 .nil)))) (.one 5 (.one 8 (.one 9 (.one 11 .nil))))) (.one 4 (.one 5 (.one 8 (.one 9 (.one 11 .nil))))))) (.qua 1 5 7 10 (.tri 5 7 10 (.one 7 (.two 8 10 (.two 9 10 (.one 10 (.one 11 .nil)) (.one 9 (.one 11 .nil))) (.one 8 (.one 9 (.one 11 .nil))))) (.two 5 10 (.two 8 10 (.two 9 10 (.one 10 (.one 11 .nil)) (.one 9 (.one 11 .nil))) (.one 8 (.one 9 (.one 11 .nil)))) (.one 5 (.one 8 (.one 9 (.one 11 .nil))))) (.two 5 7 (.one 7 (.one 8 (.one 9 (.one 11 .nil)))) (.one 5 (.one 8 (.one 9 (.one 11 .nil)))))) (.one 1 (.one 7 (.two 8 10 (.two 9 10 (.one 10 (.one 11 .nil)) (.one 9 (.one 11 .nil))) (.one 8 (.one 9 (.one 11 .nil)))))) (.tri 1 5 10 (.two 5 10 (.two 8 10 (.two 9 10 (.one 10 (.one 11 .nil)) (.one 9 (.one 11 .nil))) (.one 8 (.one 9 (.one 11 .nil)))) (.one 5 (.one 8 (.one 9 (.one 11 .nil))))) (.one 1 (.two 8 10 (.two 9 10 (.one 10 (.one 11 .nil)) (.one 9 (.one 11 .nil))) (.one 8 (.one 9 (.one 11 .nil))))) (.two 1 5 (.one 5 (.one 8 (.one 9 (.one 11 .nil)))) (.one 1 (.one 8 (.one 9 (.one 11 .nil)))))) (.tri 1 5 7 (.two 5 7 (.one 7 (.one 8 (.one 9 (.one 11 .nil)))) (.one 5 (.one 8 (.one 9 (.one 11 .nil))))) (.one 1 (.one 7 (.one 8 (.one 9 (.one 11 .nil))))) (.two 1 5 (.one 5 (.one 8 (.one 9 (.one 11 .nil)))) (.one 1 (.one 8 (.one 9 (.one 11 .nil))))))) (.tri 1 4 10 (.two 4 10 (.two 5 10 (.two 8 10 (.two 9 10 (.one 10 (.one 11 .nil)) (.one 9 (.one 11 .nil))) (.one 8 (.one 9 (.one 11 .nil)))) (.one 5 (.one 8 (.one 9 (.one 11 .nil))))) (.one 4 (.one 5 (.one 8 (.one 9 (.one 11 .nil)))))) (.tri 1 5 10 (.two 5 10 (.two 8 10 (.two 9 10 (.one 10 (.one 11 .nil)) (.one 9 (.one 11 .nil))) (.one 8 (.one 9 (.one 11 .nil)))) (.one 5 (.one 8 (.one 9 (.one 11 .nil))))) (.one 1 (.two 8 10 (.two 9 10 (.one 10 (.one 11 .nil)) (.one 9 (.one 11 .nil))) (.one 8 (.one 9 (.one 11 .nil))))) (.two 1 5 (.one 5 (.one 8 (.one 9 (.one 11 .nil)))) (.one 1 (.one 8 (.one 9 (.one 11 .nil)))))) (.two 1 4 (.one 4 (.one 5 (.one 8 (.one 9 (.one 11 .nil))))) (.two 1 5 (.one 5 (.one 8 (.one 9 (.one 11 .nil)))) (.one 1 (.one 8 (.one 9 (.one 11 .nil))))))) (.tri 1 4 7 (.two 4 7 (.two 5 7 (.one 7 (.one 8 (.one 9 (.one 11 .nil)))) (.one 5 (.one 8 (.one 9 (.one 11 .nil))))) (.one 4 (.one 5 (.one 8 (.one 9 (.one 11 .nil)))))) (.tri 1 5 7 (.two 5 7 (.one 7 (.one 8 (.one 9 (.one 11 .nil)))) (.one 5 (.one 8 (.one 9 (.one 11 .nil))))) (.one 1 (.one 7 (.one 8 (.one 9 (.one 11 .nil))))) (.two 1 5 (.one 5 (.one 8 (.one 9 (.one 11 .nil)))) (.one 1 (.one 8 (.one 9 (.one 11 .nil)))))) (.two 1 4 (.one 4 (.one 5 (.one 8 (.one 9 (.one 11 .nil))))) (.two 1 5 (.one 5 (.one 8 (.one 9 (.one 11 .nil)))) (.one 1 (.one 8 (.one 9 (.one 11 .nil)))))))))))) (⟨[.un, .un, .un, .ptr 0 1 0, .un, .un, .ptr 4 5 0, .ptr 8 9 0, .un, .ref 9 13 0 2, .un, .un, .un, .ref 12 16 0 (lfL zs fs o a b).length, .ptr 14 20 0, .un, .un, .un, .un, .un, .un, .un, .un, .un, .un, .un, .un, .un, .un, .un, .un, .un, .un, .un, .un, .un, .un, .un, .un, .un, .un, .un, .un, .un, .un, .un, .un, .un, .un, .un, .un, .un, .un, .un, .un, .un, .un, .un, .un, .un, .un, .un, .un, .un, .un, .un, .un, .un, .un, .un, .un, .un, .un, .un, .un, .un, .un, .un, .un, .un, .un, .un, .un, .un, .un, .un, .un, .un, .un, .un, .un, .un], [⟨1, 29, 3, [.sl c zs.length (zs.map (.int .i64)), .sl d fs.length (fs.map (slI d)), .sl q o.length (o.map (.int .i64))]⟩, ⟨2, 3, 1, []⟩, ⟨3, 22, 1, []⟩, ⟨4, 3, 1, []⟩, ⟨5, 29, 3, [.ref 1 2 0 0, .ref 2 3 0 0, .ref 3 4 0 0]⟩, ⟨6, 3, 1, []⟩, ⟨7, 22, 1, []⟩, ⟨8, 3, 1, []⟩, ⟨9, 29, 3, [.ref 5 6 0 0, .ref 6 7 0 0, .ref 7 8 0 0]⟩, ⟨13, 22, 1, [slI d (fs.getD a.toNat []), slI d (fs.getD b.toNat [])]⟩, ⟨17, 3, 1, W.1.map (.int .i64)⟩, ⟨18, 22, 1, W.2.1.map (ownI 3)⟩, ⟨16, 3, 1, (lfL zs fs o a b).map (.int .i64)⟩, ⟨19, 3, 1, W.2.2.map (.int .i64)⟩, ⟨20, 29, 3, [.ref 10 17 0 W.1.length, .ref 11 18 0 W.2.1.length, .ref 13 19 0 W.2.2.length]⟩], 30, 0⟩) (by kernel_rfl) (by kernel_rfl) ?_ ?_
              · subst eW
                conv => whnf
                repeat' (first
                  | (refine plan_in (id := 3) [0, 1, 2, 3, 4, 5, 6, 7, 8, 9, 10, 11] (by kernel_rfl) (by kernel_rfl) ?_; conv => whnf)
                  | (refine plan_in (id := 14) [0, 1, 2, 3, 4, 5, 6, 7, 8, 9] (by kernel_rfl) (by kernel_rfl) ?_; conv => whnf)
                  | (refine aGet_in rfl ?_; conv => whnf)
                  | (refine load_same ?_; conv => whnf)
                  | (refine And.intro (Nat.le_of_ble_eq_true rfl) ?_; conv => whnf)
                  | (refine held_in (f := 74) ?_)
                  | (refine append_same ?_; conv => whnf)
                  | (refine takeN_in ?_; conv => whnf)
                  | (refine And.intro (pureL_ints _ _) ?_; conv => whnf)
                  | (refine And.intro (by kernel_rfl) ?_; conv => whnf))
                refine cut_ml (M := [(d, fs.getD a.toNat []), (d, fs.getD b.toNat [])]) rfl ?_
                conv => whnf
                repeat' (first
                  | (refine plan_in (id := 3) [0, 1, 2, 3, 4, 5, 6, 7, 8, 9, 10, 11] (by kernel_rfl) (by kernel_rfl) ?_; conv => whnf)
                  | (refine plan_in (id := 14) [0, 1, 2, 3, 4, 5, 6, 7, 8, 9] (by kernel_rfl) (by kernel_rfl) ?_; conv => whnf)
                  | (refine held_in (f := 74) ?_)
                  | (refine append_same ?_; conv => whnf)
                  | (refine cut_ints ?_; conv => whnf))
                refine withOwn_callW (M := [(d, fs.getD a.toNat []), (d, fs.getD b.toNat [])]) (W := own (pr (zs, fs, o) a b)) hw2 rfl rfl ?_
                conv => whnf
                repeat' (first
                  | (refine plan_in (id := 3) [0, 1, 2, 3, 4, 5, 6, 7, 8, 9, 10, 11] (by kernel_rfl) (by kernel_rfl) ?_; conv => whnf)
                  | (refine plan_in (id := 14) [0, 1, 2, 3, 4, 5, 6, 7, 8, 9] (by kernel_rfl) (by kernel_rfl) ?_; conv => whnf)
                  | (refine And.intro (Nat.le_of_ble_eq_true rfl) ?_; conv => whnf)
                  | (refine held_in (f := 74) ?_)
                  | (refine append_same ?_; conv => whnf)
                  | (refine takeN_in ?_; conv => whnf)
                  | (refine set_force ?_; conv => whnf)
                  | (refine And.intro (by kernel_rfl) ?_; conv => whnf))
                exact retIS2B (mgW_e hP) (mgB_e hP) (decide_eq_true hP).symm (by decide) rfl rfl rfl rfl rfl rfl rfl rfl rfl rfl rfl rfl
              · apply with4
                · intro L1 L2 L3 L4
                  conv => whnf
                  repeat' (first
                    | (refine append_ll rfl (by rw [List.length_map, oM_len]) rfl rfl (by omega) (Nat.zero_le _) ?_; conv => whnf)
                    | (refine held_out (callG_own (M := oM d fs (abTo a b fs.length)) rfl rfl (by rw [oM_len]) rfl ?_); refine withOwn_callW (W := W) hw rfl (by rw [eM]; exact eW) ?_; conv => whnf)
                    | (refine plan_in (id := 3) [0, 1, 2, 3, 4, 5, 6, 7, 8, 9, 10, 11] (by kernel_rfl) (by kernel_rfl) ?_; conv => whnf)
                    | (refine plan_in (id := 14) [0, 1, 2, 3, 4, 5, 6, 7, 8, 9] (by kernel_rfl) (by kernel_rfl) ?_; conv => whnf)
                    | (refine fork_in ?_ ?_ <;> conv => whnf)
                    | (refine aGet_in rfl ?_; conv => whnf)
                    | (refine And.intro (Nat.le_of_ble_eq_true rfl) ?_; conv => whnf)
                    | (refine held_in (f := 74) ?_)
                    | (refine append_same ?_; conv => whnf)
                    | (refine set_force ?_; conv => whnf)
                    | (refine And.intro (And.intro (by kernel_rfl) (And.intro rfl (Nat.le_of_ble_eq_true rfl))) ?_; conv => whnf)
                    | (refine And.intro (by kernel_rfl) ?_; conv => whnf))
                  all_goals (refine to_force [] ?_; conv => whnf)
                  all_goals first | exact L1.out | exact L2.out | exact L3.out | exact L4.out
                · first
                    | (skip
                       refine to_at 14 (r := ⟨_, _, _, W.1.map (.int .i64)⟩) rfl ?_
                       refine to_force [false, false, false, false, false, false, false, false, false, false, false, false, false, false, false, false, false, false, false, false, true] ?_
                       conv => whnf
                       refine to_swap 10 14 [false, false, false, false, false, false, false, false, false, false, false, false, false, false, false, false, false, false, false, false, true] _ _ rfl rfl (by decide) (Nat.zero_le _) (Nat.zero_le _) ?_
                       refine to_force [false, false, false, false, false, false, false, false, false, false, false, false, false, false, false, false, false, false, false, false, true] ?_
                       conv => whnf
                       refine to_swap 11 15 [false, false, false, false, false, false, false, false, false, false, false, false, false, false, false, false, false, false, false, false, true] _ _ rfl rfl (by decide) (Nat.zero_le _) (Nat.zero_le _) ?_
                       refine to_force [false, false, false, false, false, false, false, false, false, false, false, false, false, false, false, false, false, false, false, false, true] ?_
                       conv => whnf
                       refine to_swap 13 16 [false, false, false, false, false, false, false, false, false, false, false, false, false, false, false, false, false, false, false, false, true] _ _ rfl rfl (by decide) (Nat.zero_le _) (Nat.zero_le _) ?_
                       refine to_force [false, false, false, false, false, false, false, false, false, false, false, false, false, false, false, false, false, false, false, false, true] ?_
                       conv => whnf
                       refine to_swap 14 20 [false, false, false, false, false, false, false, false, false, false, false, false, false, false, true] _ _ rfl rfl (by decide) (Nat.zero_le _) (Nat.zero_le _) ?_
                       refine to_force [false, false, false, false, false, false, false, false, false, false, false, false, false, false, true] ?_
                       conv => whnf
                       refine St.le.to ?_
                       conv => whnf
                       repeat' (first
                         | exact trivial
                         | exact rfl
                         | exact pureL_ints _ _
                         | exact Or.inl (And.intro rfl rfl)
                         | exact le_ints rfl
                         | exact Or.inl (And.intro (pureL_pair _ _ _ _ _ _) rfl)
                         | exact pureL_ii _ _
                         | exact Or.inl (And.intro (pureL_oi _ _) rfl)
                         | refine Or.inr ?_
                         | refine And.intro ?_ ?_
                         | exact Nat.le_of_ble_eq_true rfl)
                       done)
                    | (skip
                       refine to_at 16 (r := ⟨_, 29, _, _⟩) rfl ?_
                       refine to_force [false, false, false, false, false, false, false, false, false, false, false, false, false, false, false, false, true] ?_
                       conv => whnf
                       refine to_swap 10 18 [false, false, false, false, false, false, false, false, false, false, false, false, false, false, false, false, true] _ _ rfl rfl (by decide) (Nat.zero_le _) (Nat.zero_le _) ?_
                       refine to_force [false, false, false, false, false, false, false, false, false, false, false, false, false, false, false, false, true] ?_
                       conv => whnf
                       refine to_swap 11 19 [false, false, false, false, false, false, false, false, false, false, false, false, false, false, false, false, true] _ _ rfl rfl (by decide) (Nat.zero_le _) (Nat.zero_le _) ?_
                       refine to_force [false, false, false, false, false, false, false, false, false, false, false, false, false, false, false, false, true] ?_
                       conv => whnf
                       refine to_swap 13 20 [false, false, false, false, false, false, false, false, false, false, false, false, false, false, false, false, true] _ _ rfl rfl (by decide) (Nat.zero_le _) (Nat.zero_le _) ?_
                       refine to_force [false, false, false, false, false, false, false, false, false, false, false, false, false, false, false, false, true] ?_
                       conv => whnf
                       refine to_swap 14 16 [false, false, false, false, false, false, false, false, false, false, false, false, false, false, true] _ _ rfl rfl (by decide) (Nat.zero_le _) (Nat.zero_le _) ?_
                       refine to_force [false, false, false, false, false, false, false, false, false, false, false, false, false, false, true] ?_
                       conv => whnf
                       refine St.le.to ?_
                       conv => whnf
                       repeat' (first
                         | exact trivial)
                       done)
                    | (skip
                       refine to_at 17 (r := ⟨_, 29, _, _⟩) rfl ?_
                       refine to_force [false, false, false, false, false, false, false, false, false, false, false, false, false, false, false, false, false, true] ?_
                       conv => whnf
                       refine to_swap 10 18 [false, false, false, false, false, false, false, false, false, false, false, false, false, false, false, false, false, true] _ _ rfl rfl (by decide) (Nat.zero_le _) (Nat.zero_le _) ?_
                       refine to_force [false, false, false, false, false, false, false, false, false, false, false, false, false, false, false, false, false, true] ?_
                       conv => whnf
                       refine to_swap 11 19 [false, false, false, false, false, false, false, false, false, false, false, false, false, false, false, false, false, true] _ _ rfl rfl (by decide) (Nat.zero_le _) (Nat.zero_le _) ?_
                       refine to_force [false, false, false, false, false, false, false, false, false, false, false, false, false, false, false, false, false, true] ?_
                       conv => whnf
                       refine to_swap 13 20 [false, false, false, false, false, false, false, false, false, false, false, false, false, false, false, false, false, true] _ _ rfl rfl (by decide) (Nat.zero_le _) (Nat.zero_le _) ?_
                       refine to_force [false, false, false, false, false, false, false, false, false, false, false, false, false, false, false, false, false, true] ?_
                       conv => whnf
                       refine to_swap 14 17 [false, false, false, false, false, false, false, false, false, false, false, false, false, false, true] _ _ rfl rfl (by decide) (Nat.zero_le _) (Nat.zero_le _) ?_
                       refine to_force [false, false, false, false, false, false, false, false, false, false, false, false, false, false, true] ?_
                       conv => whnf
                       refine St.le.to ?_
                       conv => whnf
                       repeat' (first
                         | exact trivial)
                       done)
                · first
                    | (skip
                       refine to_at 14 (r := ⟨_, _, _, W.1.map (.int .i64)⟩) rfl ?_
                       refine to_force [false, false, false, false, false, false, false, false, false, false, false, false, false, false, false, false, false, false, false, false, true] ?_
                       conv => whnf
                       refine to_swap 10 14 [false, false, false, false, false, false, false, false, false, false, false, false, false, false, false, false, false, false, false, false, true] _ _ rfl rfl (by decide) (Nat.zero_le _) (Nat.zero_le _) ?_
                       refine to_force [false, false, false, false, false, false, false, false, false, false, false, false, false, false, false, false, false, false, false, false, true] ?_
                       conv => whnf
                       refine to_swap 11 15 [false, false, false, false, false, false, false, false, false, false, false, false, false, false, false, false, false, false, false, false, true] _ _ rfl rfl (by decide) (Nat.zero_le _) (Nat.zero_le _) ?_
                       refine to_force [false, false, false, false, false, false, false, false, false, false, false, false, false, false, false, false, false, false, false, false, true] ?_
                       conv => whnf
                       refine to_swap 13 16 [false, false, false, false, false, false, false, false, false, false, false, false, false, false, false, false, false, false, false, false, true] _ _ rfl rfl (by decide) (Nat.zero_le _) (Nat.zero_le _) ?_
                       refine to_force [false, false, false, false, false, false, false, false, false, false, false, false, false, false, false, false, false, false, false, false, true] ?_
                       conv => whnf
                       refine to_swap 14 20 [false, false, false, false, false, false, false, false, false, false, false, false, false, false, true] _ _ rfl rfl (by decide) (Nat.zero_le _) (Nat.zero_le _) ?_
                       refine to_force [false, false, false, false, false, false, false, false, false, false, false, false, false, false, true] ?_
                       conv => whnf
                       refine St.le.to ?_
                       conv => whnf
                       repeat' (first
                         | exact trivial)
                       done)
                    | (skip
                       refine to_at 16 (r := ⟨_, 29, _, _⟩) rfl ?_
                       refine to_force [false, false, false, false, false, false, false, false, false, false, false, false, false, false, false, false, true] ?_
                       conv => whnf
                       refine to_swap 10 18 [false, false, false, false, false, false, false, false, false, false, false, false, false, false, false, false, true] _ _ rfl rfl (by decide) (Nat.zero_le _) (Nat.zero_le _) ?_
                       refine to_force [false, false, false, false, false, false, false, false, false, false, false, false, false, false, false, false, true] ?_
                       conv => whnf
                       refine to_swap 11 19 [false, false, false, false, false, false, false, false, false, false, false, false, false, false, false, false, true] _ _ rfl rfl (by decide) (Nat.zero_le _) (Nat.zero_le _) ?_
                       refine to_force [false, false, false, false, false, false, false, false, false, false, false, false, false, false, false, false, true] ?_
                       conv => whnf
                       refine to_swap 13 20 [false, false, false, false, false, false, false, false, false, false, false, false, false, false, false, false, true] _ _ rfl rfl (by decide) (Nat.zero_le _) (Nat.zero_le _) ?_
                       refine to_force [false, false, false, false, false, false, false, false, false, false, false, false, false, false, false, false, true] ?_
                       conv => whnf
                       refine to_swap 14 16 [false, false, false, false, false, false, false, false, false, false, false, false, false, false, true] _ _ rfl rfl (by decide) (Nat.zero_le _) (Nat.zero_le _) ?_
                       refine to_force [false, false, false, false, false, false, false, false, false, false, false, false, false, false, true] ?_
                       conv => whnf
                       refine St.le.to ?_
                       conv => whnf
                       repeat' (first
                         | exact trivial)
                       done)
                    | (skip
                       refine to_at 17 (r := ⟨_, 29, _, _⟩) rfl ?_
                       refine to_force [false, false, false, false, false, false, false, false, false, false, false, false, false, false, false, false, false, true] ?_
                       conv => whnf
                       refine to_swap 10 18 [false, false, false, false, false, false, false, false, false, false, false, false, false, false, false, false, false, true] _ _ rfl rfl (by decide) (Nat.zero_le _) (Nat.zero_le _) ?_
                       refine to_force [false, false, false, false, false, false, false, false, false, false, false, false, false, false, false, false, false, true] ?_
                       conv => whnf
                       refine to_swap 11 19 [false, false, false, false, false, false, false, false, false, false, false, false, false, false, false, false, false, true] _ _ rfl rfl (by decide) (Nat.zero_le _) (Nat.zero_le _) ?_
                       refine to_force [false, false, false, false, false, false, false, false, false, false, false, false, false, false, false, false, false, true] ?_
                       conv => whnf
                       refine to_swap 13 20 [false, false, false, false, false, false, false, false, false, false, false, false, false, false, false, false, false, true] _ _ rfl rfl (by decide) (Nat.zero_le _) (Nat.zero_le _) ?_
                       refine to_force [false, false, false, false, false, false, false, false, false, false, false, false, false, false, false, false, false, true] ?_
                       conv => whnf
                       refine to_swap 14 17 [false, false, false, false, false, false, false, false, false, false, false, false, false, false, true] _ _ rfl rfl (by decide) (Nat.zero_le _) (Nat.zero_le _) ?_
                       refine to_force [false, false, false, false, false, false, false, false, false, false, false, false, false, false, true] ?_
                       conv => whnf
                       refine St.le.to ?_
                       conv => whnf
                       repeat' (first
                         | exact trivial
                         | exact rfl
                         | exact pureL_ints _ _
                         | exact Or.inl (And.intro rfl rfl)
                         | exact le_ints rfl
                         | exact Or.inl (And.intro (pureL_pair _ _ _ _ _ _) rfl)
                         | exact pureL_ii _ _
                         | exact Or.inl (And.intro (pureL_oi _ _) rfl)
                         | refine Or.inr ?_
                         | refine And.intro ?_ ?_
                         | exact Nat.le_of_ble_eq_true rfl)
                       done)
                · first
                    | (skip
                       refine to_at 14 (r := ⟨_, _, _, W.1.map (.int .i64)⟩) rfl ?_
                       refine to_force [false, false, false, false, false, false, false, false, false, false, false, false, false, false, false, false, false, false, false, false, true] ?_
                       conv => whnf
                       refine to_swap 10 14 [false, false, false, false, false, false, false, false, false, false, false, false, false, false, false, false, false, false, false, false, true] _ _ rfl rfl (by decide) (Nat.zero_le _) (Nat.zero_le _) ?_
                       refine to_force [false, false, false, false, false, false, false, false, false, false, false, false, false, false, false, false, false, false, false, false, true] ?_
                       conv => whnf
                       refine to_swap 11 15 [false, false, false, false, false, false, false, false, false, false, false, false, false, false, false, false, false, false, false, false, true] _ _ rfl rfl (by decide) (Nat.zero_le _) (Nat.zero_le _) ?_
                       refine to_force [false, false, false, false, false, false, false, false, false, false, false, false, false, false, false, false, false, false, false, false, true] ?_
                       conv => whnf
                       refine to_swap 13 16 [false, false, false, false, false, false, false, false, false, false, false, false, false, false, false, false, false, false, false, false, true] _ _ rfl rfl (by decide) (Nat.zero_le _) (Nat.zero_le _) ?_
                       refine to_force [false, false, false, false, false, false, false, false, false, false, false, false, false, false, false, false, false, false, false, false, true] ?_
                       conv => whnf
                       refine to_swap 14 20 [false, false, false, false, false, false, false, false, false, false, false, false, false, false, true] _ _ rfl rfl (by decide) (Nat.zero_le _) (Nat.zero_le _) ?_
                       refine to_force [false, false, false, false, false, false, false, false, false, false, false, false, false, false, true] ?_
                       conv => whnf
                       refine St.le.to ?_
                       conv => whnf
                       repeat' (first
                         | exact trivial)
                       done)
                    | (skip
                       refine to_at 16 (r := ⟨_, 29, _, _⟩) rfl ?_
                       refine to_force [false, false, false, false, false, false, false, false, false, false, false, false, false, false, false, false, true] ?_
                       conv => whnf
                       refine to_swap 10 18 [false, false, false, false, false, false, false, false, false, false, false, false, false, false, false, false, true] _ _ rfl rfl (by decide) (Nat.zero_le _) (Nat.zero_le _) ?_
                       refine to_force [false, false, false, false, false, false, false, false, false, false, false, false, false, false, false, false, true] ?_
                       conv => whnf
                       refine to_swap 11 19 [false, false, false, false, false, false, false, false, false, false, false, false, false, false, false, false, true] _ _ rfl rfl (by decide) (Nat.zero_le _) (Nat.zero_le _) ?_
                       refine to_force [false, false, false, false, false, false, false, false, false, false, false, false, false, false, false, false, true] ?_
                       conv => whnf
                       refine to_swap 13 20 [false, false, false, false, false, false, false, false, false, false, false, false, false, false, false, false, true] _ _ rfl rfl (by decide) (Nat.zero_le _) (Nat.zero_le _) ?_
                       refine to_force [false, false, false, false, false, false, false, false, false, false, false, false, false, false, false, false, true] ?_
                       conv => whnf
                       refine to_swap 14 16 [false, false, false, false, false, false, false, false, false, false, false, false, false, false, true] _ _ rfl rfl (by decide) (Nat.zero_le _) (Nat.zero_le _) ?_
                       refine to_force [false, false, false, false, false, false, false, false, false, false, false, false, false, false, true] ?_
                       conv => whnf
                       refine St.le.to ?_
                       conv => whnf
                       repeat' (first
                         | exact trivial)
                       done)
                    | (skip
                       refine to_at 17 (r := ⟨_, 29, _, _⟩) rfl ?_
                       refine to_force [false, false, false, false, false, false, false, false, false, false, false, false, false, false, false, false, false, true] ?_
                       conv => whnf
                       refine to_swap 10 18 [false, false, false, false, false, false, false, false, false, false, false, false, false, false, false, false, false, true] _ _ rfl rfl (by decide) (Nat.zero_le _) (Nat.zero_le _) ?_
                       refine to_force [false, false, false, false, false, false, false, false, false, false, false, false, false, false, false, false, false, true] ?_
                       conv => whnf
                       refine to_swap 11 19 [false, false, false, false, false, false, false, false, false, false, false, false, false, false, false, false, false, true] _ _ rfl rfl (by decide) (Nat.zero_le _) (Nat.zero_le _) ?_
                       refine to_force [false, false, false, false, false, false, false, false, false, false, false, false, false, false, false, false, false, true] ?_
                       conv => whnf
                       refine to_swap 13 20 [false, false, false, false, false, false, false, false, false, false, false, false, false, false, false, false, false, true] _ _ rfl rfl (by decide) (Nat.zero_le _) (Nat.zero_le _) ?_
                       refine to_force [false, false, false, false, false, false, false, false, false, false, false, false, false, false, false, false, false, true] ?_
                       conv => whnf
                       refine to_swap 14 17 [false, false, false, false, false, false, false, false, false, false, false, false, false, false, true] _ _ rfl rfl (by decide) (Nat.zero_le _) (Nat.zero_le _) ?_
                       refine to_force [false, false, false, false, false, false, false, false, false, false, false, false, false, false, true] ?_
                       conv => whnf
                       refine St.le.to ?_
                       conv => whnf
                       repeat' (first
                         | exact trivial
                         | exact rfl
                         | exact pureL_ints _ _
                         | exact Or.inl (And.intro rfl rfl)
                         | exact le_ints rfl
                         | exact Or.inl (And.intro (pureL_pair _ _ _ _ _ _) rfl)
                         | exact pureL_ii _ _
                         | exact Or.inl (And.intro (pureL_oi _ _) rfl)
                         | refine Or.inr ?_
                         | refine And.intro ?_ ?_
                         | exact Nat.le_of_ble_eq_true rfl)
                       done)
                · first
                    | (skip
                       refine to_at 14 (r := ⟨_, _, _, W.1.map (.int .i64)⟩) rfl ?_
                       refine to_force [false, false, false, false, false, false, false, false, false, false, false, false, false, false, false, false, false, false, false, false, true] ?_
                       conv => whnf
                       refine to_swap 10 14 [false, false, false, false, false, false, false, false, false, false, false, false, false, false, false, false, false, false, false, false, true] _ _ rfl rfl (by decide) (Nat.zero_le _) (Nat.zero_le _) ?_
                       refine to_force [false, false, false, false, false, false, false, false, false, false, false, false, false, false, false, false, false, false, false, false, true] ?_
                       conv => whnf
                       refine to_swap 11 15 [false, false, false, false, false, false, false, false, false, false, false, false, false, false, false, false, false, false, false, false, true] _ _ rfl rfl (by decide) (Nat.zero_le _) (Nat.zero_le _) ?_
                       refine to_force [false, false, false, false, false, false, false, false, false, false, false, false, false, false, false, false, false, false, false, false, true] ?_
                       conv => whnf
                       refine to_swap 13 16 [false, false, false, false, false, false, false, false, false, false, false, false, false, false, false, false, false, false, false, false, true] _ _ rfl rfl (by decide) (Nat.zero_le _) (Nat.zero_le _) ?_
                       refine to_force [false, false, false, false, false, false, false, false, false, false, false, false, false, false, false, false, false, false, false, false, true] ?_
                       conv => whnf
                       refine to_swap 14 20 [false, false, false, false, false, false, false, false, false, false, false, false, false, false, true] _ _ rfl rfl (by decide) (Nat.zero_le _) (Nat.zero_le _) ?_
                       refine to_force [false, false, false, false, false, false, false, false, false, false, false, false, false, false, true] ?_
                       conv => whnf
                       refine St.le.to ?_
                       conv => whnf
                       repeat' (first
                         | exact trivial)
                       done)
                    | (skip
                       refine to_at 16 (r := ⟨_, 29, _, _⟩) rfl ?_
                       refine to_force [false, false, false, false, false, false, false, false, false, false, false, false, false, false, false, false, true] ?_
                       conv => whnf
                       refine to_swap 10 18 [false, false, false, false, false, false, false, false, false, false, false, false, false, false, false, false, true] _ _ rfl rfl (by decide) (Nat.zero_le _) (Nat.zero_le _) ?_
                       refine to_force [false, false, false, false, false, false, false, false, false, false, false, false, false, false, false, false, true] ?_
                       conv => whnf
                       refine to_swap 11 19 [false, false, false, false, false, false, false, false, false, false, false, false, false, false, false, false, true] _ _ rfl rfl (by decide) (Nat.zero_le _) (Nat.zero_le _) ?_
                       refine to_force [false, false, false, false, false, false, false, false, false, false, false, false, false, false, false, false, true] ?_
                       conv => whnf
                       refine to_swap 13 20 [false, false, false, false, false, false, false, false, false, false, false, false, false, false, false, false, true] _ _ rfl rfl (by decide) (Nat.zero_le _) (Nat.zero_le _) ?_
                       refine to_force [false, false, false, false, false, false, false, false, false, false, false, false, false, false, false, false, true] ?_
                       conv => whnf
                       refine to_swap 14 16 [false, false, false, false, false, false, false, false, false, false, false, false, false, false, true] _ _ rfl rfl (by decide) (Nat.zero_le _) (Nat.zero_le _) ?_
                       refine to_force [false, false, false, false, false, false, false, false, false, false, false, false, false, false, true] ?_
                       conv => whnf
                       refine St.le.to ?_
                       conv => whnf
                       repeat' (first
                         | exact trivial
                         | exact rfl
                         | exact pureL_ints _ _
                         | exact Or.inl (And.intro rfl rfl)
                         | exact le_ints rfl
                         | exact Or.inl (And.intro (pureL_pair _ _ _ _ _ _) rfl)
                         | exact pureL_ii _ _
                         | exact Or.inl (And.intro (pureL_oi _ _) rfl)
                         | refine Or.inr ?_
                         | refine And.intro ?_ ?_
                         | exact Nat.le_of_ble_eq_true rfl)
                       done)
                    | (skip
                       refine to_at 17 (r := ⟨_, 29, _, _⟩) rfl ?_
                       refine to_force [false, false, false, false, false, false, false, false, false, false, false, false, false, false, false, false, false, true] ?_
                       conv => whnf
                       refine to_swap 10 18 [false, false, false, false, false, false, false, false, false, false, false, false, false, false, false, false, false, true] _ _ rfl rfl (by decide) (Nat.zero_le _) (Nat.zero_le _) ?_
                       refine to_force [false, false, false, false, false, false, false, false, false, false, false, false, false, false, false, false, false, true] ?_
                       conv => whnf
                       refine to_swap 11 19 [false, false, false, false, false, false, false, false, false, false, false, false, false, false, false, false, false, true] _ _ rfl rfl (by decide) (Nat.zero_le _) (Nat.zero_le _) ?_
                       refine to_force [false, false, false, false, false, false, false, false, false, false, false, false, false, false, false, false, false, true] ?_
                       conv => whnf
                       refine to_swap 13 20 [false, false, false, false, false, false, false, false, false, false, false, false, false, false, false, false, false, true] _ _ rfl rfl (by decide) (Nat.zero_le _) (Nat.zero_le _) ?_
                       refine to_force [false, false, false, false, false, false, false, false, false, false, false, false, false, false, false, false, false, true] ?_
                       conv => whnf
                       refine to_swap 14 17 [false, false, false, false, false, false, false, false, false, false, false, false, false, false, true] _ _ rfl rfl (by decide) (Nat.zero_le _) (Nat.zero_le _) ?_
                       refine to_force [false, false, false, false, false, false, false, false, false, false, false, false, false, false, true] ?_
                       conv => whnf
                       refine St.le.to ?_
                       conv => whnf
                       repeat' (first
                         | exact trivial)
                       done)
            · have hn : ¬ mgP (zs, fs, o) a b := fun h => hn3 h.2.2
              conv => whnf
              repeat' (first
                | (refine plan_in (id := 3) [0, 1, 2, 3, 4, 5, 6, 7, 8, 9, 10, 11] (by kernel_rfl) (by kernel_rfl) ?_; conv => whnf)
                | (refine plan_in (id := 14) [0, 1, 2, 3, 4, 5, 6, 7, 8, 9] (by kernel_rfl) (by kernel_rfl) ?_; conv => whnf)
                | (refine fun (_ : _ ≤ maxLen) => ?_; conv => whnf)
                | (refine And.intro (Nat.le_of_ble_eq_true rfl) ?_; conv => whnf)
                | (refine held_in (f := 74) ?_)
                | (refine append_same ?_; conv => whnf)
                | (refine takeN_in ?_; conv => whnf)
                | (refine set_force ?_; conv => whnf)
                | (refine And.intro (by kernel_rfl) ?_; conv => whnf)
                | (refine aIf_dec (fun _ => ?_) (fun _ => ?_) <;> conv => whnf))
              all_goals (first | (exfalso; omega) | contradiction | skip)
              exact retIS2B (mgW_f hn) (mgB_f hn) (decide_eq_false hn).symm (by decide) rfl rfl rfl rfl rfl rfl rfl rfl rfl rfl rfl rfl
      · have hn : ¬ mgP (zs, fs, o) a b := fun h => ha ⟨h.2.1.1, h.2.1.2.1⟩
        conv => whnf
        repeat' (first
          | (refine plan_in (id := 3) [0, 1, 2, 3, 4, 5, 6, 7, 8, 9, 10, 11] (by kernel_rfl) (by kernel_rfl) ?_; conv => whnf)
          | (refine plan_in (id := 14) [0, 1, 2, 3, 4, 5, 6, 7, 8, 9] (by kernel_rfl) (by kernel_rfl) ?_; conv => whnf)
          | (refine aIf_t ?_; conv => whnf)
          | (refine aIf_f ?_; conv => whnf)
          | (refine fun (_ : _ ≤ maxLen) => ?_; conv => whnf)
          | (refine aGet_in rfl ?_; conv => whnf)
          | (refine And.intro (by omega) ?_; conv => whnf)
          | (refine load_same ?_; conv => whnf)
          | (refine And.intro rfl (And.intro (List.cons_ne_nil _ _) ?_); conv => whnf)
          | (refine And.intro (Nat.le_of_ble_eq_true rfl) ?_; conv => whnf)
          | (refine held_in (f := 74) ?_)
          | (refine callG_t ?_; conv => whnf)
          | (refine indexOk_call trivial ?_; conv => whnf)
          | (refine append_same ?_; conv => whnf)
          | (refine get_ii_n (by omega) ?_; conv => whnf)
          | (refine And.intro (pureL_ii _ _) ?_; conv => whnf)
          | (refine iSumOk_call trivial ?_; conv => whnf)
          | (refine allBut_call (by first | omega | assumption | (refine ⟨?_, ?_⟩ <;> first | assumption | omega) | (refine ⟨?_, ?_, ?_⟩ <;> first | assumption | omega)) ?_; conv => whnf)
          | (refine takeN_in ?_; conv => whnf)
          | (refine And.intro (pureL_ints _ _) ?_; conv => whnf)
          | (refine set_force ?_; conv => whnf)
          | (refine And.intro (by kernel_rfl) ?_; conv => whnf)
          | refine aIf_eqf ?_
          | refine aIf_not ?_
          | (refine aIf_dec (fun _ => ?_) (fun _ => ?_) <;> conv => whnf))
        all_goals (first | (exfalso; omega) | contradiction | skip)
        exact retIS2B (mgW_f hn) (mgB_f hn) (decide_eq_false hn).symm (by decide) rfl rfl rfl rfl rfl rfl rfl rfl rfl rfl rfl rfl
    · have hn : ¬ mgP (zs, fs, o) a b := fun h => hb ⟨by have := h.2.1.1; have := h.2.1.2.1; omega, h.2.1.2.2⟩
      conv => whnf
      repeat' (first
        | (refine plan_in (id := 3) [0, 1, 2, 3, 4, 5, 6, 7, 8, 9, 10, 11] (by kernel_rfl) (by kernel_rfl) ?_; conv => whnf)
        | (refine plan_in (id := 14) [0, 1, 2, 3, 4, 5, 6, 7, 8, 9] (by kernel_rfl) (by kernel_rfl) ?_; conv => whnf)
        | (refine aIf_t ?_; conv => whnf)
        | (refine aIf_f ?_; conv => whnf)
        | (refine fun (_ : _ ≤ maxLen) => ?_; conv => whnf)
        | (refine aGet_in rfl ?_; conv => whnf)
        | (refine And.intro (by omega) ?_; conv => whnf)
        | (refine load_same ?_; conv => whnf)
        | (refine And.intro rfl (And.intro (List.cons_ne_nil _ _) ?_); conv => whnf)
        | (refine And.intro (Nat.le_of_ble_eq_true rfl) ?_; conv => whnf)
        | (refine held_in (f := 74) ?_)
        | (refine callG_t ?_; conv => whnf)
        | (refine indexOk_call trivial ?_; conv => whnf)
        | (refine append_same ?_; conv => whnf)
        | (refine get_ii_n (by omega) ?_; conv => whnf)
        | (refine And.intro (pureL_ii _ _) ?_; conv => whnf)
        | (refine iSumOk_call trivial ?_; conv => whnf)
        | (refine allBut_call (by first | omega | assumption | (refine ⟨?_, ?_⟩ <;> first | assumption | omega) | (refine ⟨?_, ?_, ?_⟩ <;> first | assumption | omega)) ?_; conv => whnf)
        | (refine takeN_in ?_; conv => whnf)
        | (refine And.intro (pureL_ints _ _) ?_; conv => whnf)
        | (refine set_force ?_; conv => whnf)
        | (refine And.intro (by kernel_rfl) ?_; conv => whnf)
        | refine aIf_eqf ?_
        | refine aIf_not ?_
        | (refine aIf_dec (fun _ => ?_) (fun _ => ?_) <;> conv => whnf))
      all_goals (first | (exfalso; omega) | contradiction | skip)
      exact retIS2B (mgW_f hn) (mgB_f hn) (decide_eq_false hn).symm (by decide) rfl rfl rfl rfl rfl rfl rfl rfl rfl rfl rfl rfl
  · have hn : ¬ mgP (zs, fs, o) a b := fun h => hs h.1
    conv => whnf
    repeat' (first
      | (refine plan_in (id := 3) [0, 1, 2, 3, 4, 5, 6, 7, 8, 9, 10, 11] (by kernel_rfl) (by kernel_rfl) ?_; conv => whnf)
      | (refine plan_in (id := 14) [0, 1, 2, 3, 4, 5, 6, 7, 8, 9] (by kernel_rfl) (by kernel_rfl) ?_; conv => whnf)
      | (refine aIf_t ?_; conv => whnf)
      | (refine aIf_f ?_; conv => whnf)
      | (refine fun (_ : _ ≤ maxLen) => ?_; conv => whnf)
      | (refine aGet_in rfl ?_; conv => whnf)
      | (refine And.intro (by omega) ?_; conv => whnf)
      | (refine load_same ?_; conv => whnf)
      | (refine And.intro rfl (And.intro (List.cons_ne_nil _ _) ?_); conv => whnf)
      | (refine And.intro (Nat.le_of_ble_eq_true rfl) ?_; conv => whnf)
      | (refine held_in (f := 74) ?_)
      | (refine callG_t ?_; conv => whnf)
      | (refine indexOk_call trivial ?_; conv => whnf)
      | (refine append_same ?_; conv => whnf)
      | (refine get_ii (by omega) ?_; conv => whnf)
      | (refine And.intro (pureL_ii _ _) ?_; conv => whnf)
      | (refine iSumOk_call trivial ?_; conv => whnf)
      | (refine takeN_in ?_; conv => whnf)
      | (refine And.intro (pureL_ints _ _) ?_; conv => whnf)
      | (refine set_force ?_; conv => whnf)
      | (refine And.intro (And.intro (by kernel_rfl) (And.intro rfl (Nat.le_of_ble_eq_true rfl))) ?_; conv => whnf)
      | (refine And.intro (by kernel_rfl) ?_; conv => whnf)
      | refine aIf_eqf ?_
      | refine aIf_not ?_
      | (refine aIf_dec (fun _ => ?_) (fun _ => ?_) <;> conv => whnf))
    all_goals (first | (exfalso; omega) | contradiction | skip)
    exact retIS2B (mgW_f hn) (mgB_f hn) (decide_eq_false hn).symm (by decide) rfl rfl rfl rfl rfl rfl rfl rfl rfl rfl rfl rfl
end Go.Proofs.Ytmgggbgejdkamaa
