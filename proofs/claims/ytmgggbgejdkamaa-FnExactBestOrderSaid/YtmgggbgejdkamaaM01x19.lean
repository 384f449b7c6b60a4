import Derived.Test.YtmgggbgejdkamaaM01x18
import Derived.Test.YtmgggbgejdkamaaM01x15
import Derived.Test.YtmgggbgejdkamaaM01x14
/- Chapter 5: letters numbered anew by the program. -/
namespace Go.Proofs.Ytmgggbgejdkamaa
set_option maxRecDepth 20000
open Go.RowKit Go.Am
set_option linter.unusedSimpArgs false
attribute [local irreducible] aPlan aGet aIf aLoop aCall RetB NextB CallB CallG aCut aSet aAppend
theorem pickNums_calln {c d n : Nat} {xs ax : List Int} {env : List AV} {rows : List Row} {ctr low : Nat} {k : AV → St → Prop} (hn : n = xs.length) (hpre : ax.length ≤ 1048576 ∧ ∀ j, j < ax.length → 0 ≤ ax.getD j 0 ∧ ax.getD j 0 < xs.length) (h : k (.ref rows.length ctr 0 (turned xs ax).length) ⟨env, rows ++ [⟨ctr, 3, 1, (turned xs ax).map (.int .i64)⟩], ctr + 1, low⟩) :
    CallB Try.prog 95 ⟨env, rows, ctr, low⟩ [.sl c n (xs.map (.int .i64)), .sl d ax.length (ax.map (.int .i64))] k := by
  subst hn; exact pickNums_call hpre h
def wolP (zs : List Int) (fs : List (List Int)) (o : List Int) : Prop := zs.length ≤ 5 ∧ fs.length ≤ 4 ∧ (∀ k, k < fs.length → (fs.getD k []).length ≤ 1048576 ∧ ∀ j, j < (fs.getD k []).length → 0 ≤ (fs.getD k []).getD j 0 ∧ (fs.getD k []).getD j 0 < zs.length) ∧ (o.length ≤ 1048576 ∧ ∀ j, j < o.length → 0 ≤ o.getD j 0 ∧ o.getD j 0 < zs.length)
set_option maxHeartbeats 4000000 in
theorem withOwn_sound : Sound Try.prog 74 (fnIS (ι := Nat × List Int × Nat × ML × Nat × List Int) 3 22 (fun | (c, zs, d, M, e, o) => [.agg [.sl c zs.length (zs.map (.int .i64)), .sl d M.length (M.map mlC), .sl e o.length (o.map (.int .i64))]]) (fun | (_, zs, _, M, _, o) => wolP zs (M.map Prod.snd) o) (fun | (_, zs, _, M, _, o) => ownM zs (M.map Prod.snd) o)) := by
  refine sound_of Try.func74 rfl (enters_of Try.func74 (by kernel_rfl) (by kernel_rfl)) ?_
  rintro ⟨c, zs, d, M, q, o⟩ hpre
  obtain ⟨hz, hf, hl, ho⟩ : wolP zs (M.map Prod.snd) o := hpre
  rw [List.length_map] at hf hl
  have hmax : maxLen = 9223372036854775807 := rfl
  have ht0 : ∀ k, (toTo (M.map Prod.snd) zs.length k).length = zs.length := fun k => toTo_length _ _ k
  have ho' : o.length ≤ 1048576 ∧ ∀ j, j < o.length → 0 ≤ o.getD j 0 ∧ o.getD j 0 < (toTo (M.map Prod.snd) zs.length zs.length).length := by rw [ht0]; exact ho
  conv => whnf
  repeat' (first
    | (refine fun (_ : _ ≤ maxLen) => ?_; conv => whnf)
    | (refine aGet_in rfl ?_; conv => whnf)
    | (refine And.intro (And.intro (Int.le_refl _) (And.intro (by kernel_rfl) (And.intro rfl (by kernel_rfl)))) (And.intro (And.intro (by omega) (And.intro (bytes_le (b := 8) rfl (by omega)) (by omega))) ?_); conv => whnf)
    | (refine And.intro rfl (And.intro (List.cons_ne_nil _ _) ?_); conv => whnf)
    | (refine append_same ?_; conv => whnf)
    | (refine And.intro (And.intro (by kernel_rfl) (And.intro rfl (Nat.le_of_ble_eq_true rfl))) ?_; conv => whnf)
    | (refine And.intro (by kernel_rfl) ?_; conv => whnf))
  all_goals (first | (exfalso; omega) | contradiction | skip)
  refine loop_u (ι := Nat) [false, true, true, true, true, false, false, false, false, false, false, false, false, false, false, false, true, true, true, false, false, false, false, false, false, false, false, false, false, false, false, false, false, false, false, false, false, false, false, false, false, false, false, false, false, false, false, false, false, false, false, false, false, false, false, false, false, false, false, false, false, false, false] (fun k => [(3, .ref 5 6 0 (ownZ zs (M.map Prod.snd) k).length), (18, .int .i64 k)]) (fun k => [(5, (ownZ zs (M.map Prod.snd) k).map (.int .i64)), (6, (toTo (M.map Prod.snd) zs.length k).map (.int .i64))]) (fun k => k ≤ zs.length) (fun k => zs.length - k) (0) (Nat.zero_le _) ?_ ?_
  · have e0 : rep (zs.length : Int).toNat [AV.int .i64 0] = (toTo (M.map Prod.snd) zs.length 0).map (.int .i64) := by rw [rep_ints]; rfl
    conv => whnf
    repeat' (first | exact le_ints e0 | refine And.intro ?_ ?_)
    repeat' (first
      | exact trivial
      | exact rfl
      | exact pureL_ints _ _
      | exact Or.inl (And.intro rfl rfl)
      | exact pureL_ml _
      | refine Or.inr ?_
      | refine And.intro ?_ ?_
      | exact Nat.le_of_ble_eq_true rfl)
  · rintro k hk
    have hk : k ≤ zs.length := hk
    have hol := ownZ_length zs (M.map Prod.snd) k
    have hrl := rk_le (M.map Prod.snd) k
    have htl := ht0 k
    by_cases hlt : k < zs.length
    · by_cases hu : usedP (M.map Prod.snd) k
      · have e1 := ownZ_t (zs := zs) hu
        have e2 := toTo_t (n := zs.length) hu
        rw [← hol] at e2
        conv => whnf
        repeat' (first
          | (refine fun (_ : _ ≤ maxLen) => ?_; conv => whnf)
          | (refine get_nat (by omega) ?_; conv => whnf)
          | (refine aGet_in rfl ?_; conv => whnf)
          | (refine And.intro (by omega) ?_; conv => whnf)
          | (refine callG_t ?_; conv => whnf)
          | (refine append_same ?_; conv => whnf)
          | (refine And.intro (pureL_ml _) ?_; conv => whnf)
          | (refine letterTaken_callM ?_; conv => whnf)
          | (refine append_int rfl rfl (by first | rfl | (simp only [List.length_take, turned_length]; omega)) (by omega) (Nat.le_of_ble_eq_true rfl) ?_; conv => whnf)
          | (refine And.intro rfl (And.intro rfl (And.intro (by first | omega | (rw [List.length_map]; omega)) ?_)); conv => whnf)
          | (refine set_nat ?_ (by omega); conv => whnf)
          | (refine And.intro (And.intro (by kernel_rfl) (And.intro rfl (Nat.le_of_ble_eq_true rfl))) ?_; conv => whnf)
          | (refine aIf_dec (fun _ => ?_) (fun _ => ?_) <;> conv => whnf))
        all_goals (first | (exfalso; omega) | contradiction | skip)
        refine next_u (k + 1) (show zs.length - (k + 1) < zs.length - k by omega) (by exact (by omega : k + 1 ≤ zs.length)) ?_
        rw [e1, e2]
        conv => whnf
        repeat' (first
          | exact trivial
          | exact rfl
          | exact pureL_ints _ _
          | exact Or.inl (And.intro rfl rfl)
          | exact le_ints rfl
          | exact pureL_ml _
          | refine Or.inr ?_
          | refine And.intro ?_ ?_
          | exact Nat.le_of_ble_eq_true rfl
          | exact List.length_append
          | exact int_eq (by rw [IntWalk.i64_in _ (by omega)] <;> omega))
      · have e1 := ownZ_f (zs := zs) hu
        have e2 := toTo_f (n := zs.length) hu
        conv => whnf
        repeat' (first
          | (refine fun (_ : _ ≤ maxLen) => ?_; conv => whnf)
          | (refine get_nat (by omega) ?_; conv => whnf)
          | (refine aGet_in rfl ?_; conv => whnf)
          | (refine And.intro (by omega) ?_; conv => whnf)
          | (refine callG_t ?_; conv => whnf)
          | (refine append_same ?_; conv => whnf)
          | (refine And.intro (pureL_ml _) ?_; conv => whnf)
          | (refine letterTaken_callM ?_; conv => whnf)
          | (refine append_int rfl rfl (by first | rfl | (simp only [List.length_take, turned_length]; omega)) (by omega) (Nat.le_of_ble_eq_true rfl) ?_; conv => whnf)
          | (refine And.intro rfl (And.intro rfl (And.intro (by first | omega | (rw [List.length_map]; omega)) ?_)); conv => whnf)
          | (refine set_nat ?_ (by omega); conv => whnf)
          | (refine And.intro (And.intro (by kernel_rfl) (And.intro rfl (Nat.le_of_ble_eq_true rfl))) ?_; conv => whnf)
          | (refine aIf_dec (fun _ => ?_) (fun _ => ?_) <;> conv => whnf))
        all_goals (first | (exfalso; omega) | contradiction | skip)
        refine next_u (k + 1) (show zs.length - (k + 1) < zs.length - k by omega) (by exact (by omega : k + 1 ≤ zs.length)) ?_
        rw [e1, e2]
        conv => whnf
        repeat' (first
          | exact trivial
          | exact rfl
          | exact pureL_ints _ _
          | exact Or.inl (And.intro rfl rfl)
          | exact le_ints rfl
          | exact pureL_ml _
          | refine Or.inr ?_
          | refine And.intro ?_ ?_
          | exact Nat.le_of_ble_eq_true rfl
          | exact int_eq (by rw [IntWalk.i64_in _ (by omega)] <;> omega))
    · have he : k = zs.length := by omega
      subst he
      have hLl : ((M.map Prod.snd).map (turned (toTo (M.map Prod.snd) zs.length zs.length))).length = M.length := by rw [List.length_map, List.length_map]
      have hLk : ∀ k, ((M.map Prod.snd).map (turned (toTo (M.map Prod.snd) zs.length zs.length))).getD k [] = turned (toTo (M.map Prod.snd) zs.length zs.length) (M.getD k (0, [])).2 := fun k => by rw [getD_mapL rfl, ml_getD]
      conv => whnf
      repeat' (first
        | (refine fun (_ : _ ≤ maxLen) => ?_; conv => whnf)
        | (refine get_nat (by omega) ?_; conv => whnf)
        | (refine aGet_in rfl ?_; conv => whnf)
        | (refine And.intro (by omega) ?_; conv => whnf)
        | (refine callG_t ?_; conv => whnf)
        | (refine append_same ?_; conv => whnf)
        | (refine letterTaken_callM ?_; conv => whnf)
        | (refine And.intro (And.intro (Int.le_refl _) (And.intro (by kernel_rfl) (And.intro rfl (by kernel_rfl)))) (And.intro (And.intro (by omega) (And.intro (bytes_le (b := 24) rfl (by omega)) (by omega))) ?_); conv => whnf)
        | (refine append_int rfl rfl (by first | rfl | (simp only [List.length_take, turned_length]; omega)) (by omega) (Nat.le_of_ble_eq_true rfl) ?_; conv => whnf)
        | (refine set_nat ?_ (by omega); conv => whnf)
        | (refine aIf_dec (fun _ => ?_) (fun _ => ?_) <;> conv => whnf))
      all_goals (first | (exfalso; omega) | contradiction | skip)
      refine loop_ut (ι := Nat) [false, true, true, true, true, false, false, true, false, false, false, false, false, false, false, false, false, false, false, false, false, false, false, false, false, false, false, false, false, false, false, false, false, false, false, false, false, false, false, false, false, false, true, true, true, false, false, false, false, false, false, false, false, false, false, false, false, false, false, false, false, false, false] (fun k => [(44, .int .i64 k)]) (fun k => [(7, fillC (ownI 3) ((M.map Prod.snd).map (turned (toTo (M.map Prod.snd) zs.length zs.length))) k .nil)]) (fun k => k ≤ M.length) (fun k => M.length - k) (0) (Nat.zero_le _) ?_ ?_
      · conv => whnf
        refine St.le.to ?_
        conv => whnf
        repeat' (first | exact le_cells (show rep (M.length : Int).toNat [AV.nil] = fillC (ownI 3) ((M.map Prod.snd).map (turned (toTo (M.map Prod.snd) zs.length zs.length))) 0 .nil by simp [rep, fillC]) (fillC_pure (ownI_pure _) rfl) | refine And.intro ?_ ?_)
        repeat' (first
          | exact trivial
          | exact rfl
          | exact pureL_ints _ _
          | exact Or.inl (And.intro rfl rfl)
          | exact le_ints rfl
          | exact pureL_ml _
          | refine Or.inr ?_
          | refine And.intro ?_ ?_
          | exact Nat.le_of_ble_eq_true rfl)
      · rintro k hk
        have hk : k ≤ M.length := hk
        by_cases hlt : k < M.length
        · have hpk := hLk k
          obtain ⟨i1, i2⟩ := hl k hlt
          rw [ml_getD] at i1 i2
          have hpp : (M.getD k (0, [])).2.length ≤ 1048576 ∧ ∀ j, j < (M.getD k (0, [])).2.length → 0 ≤ (M.getD k (0, [])).2.getD j 0 ∧ (M.getD k (0, [])).2.getD j 0 < (toTo (M.map Prod.snd) zs.length zs.length).length := ⟨i1, by rw [htl]; exact i2⟩
          conv => whnf
          repeat' (first
            | (refine aGet_in rfl ?_; conv => whnf)
            | (refine And.intro (by omega) ?_; conv => whnf)
            | (refine callG_t ?_; conv => whnf)
            | (refine append_same ?_; conv => whnf)
            | (refine get_ml_n (by omega) ?_; conv => whnf)
            | (refine And.intro rfl (And.intro rfl (And.intro (by rw [fillC_length (by omega)]; omega) ?_)); conv => whnf)
            | (refine set_fillC (by omega) (by omega) ?_; conv => whnf)
            | (refine pickNums_calln (by omega) (by assumption) ?_; conv => whnf)
            | (refine takeN_in ?_; conv => whnf)
            | (refine And.intro (pureL_ints _ _) ?_; conv => whnf)
            | (refine cut_all (by simp only [List.length_map]; omega) (scalL_ints _ _) ?_; conv => whnf)
            | (refine set_force ?_; conv => whnf)
            | (refine aIf_dec (fun _ => ?_) (fun _ => ?_) <;> conv => whnf))
          all_goals (first | (exfalso; omega) | skip)
          refine next_ut (k + 1) (show M.length - (k + 1) < M.length - k by omega) (by exact (by omega : k + 1 ≤ M.length)) ?_
          conv => whnf
          refine to_close 7 k 8 _ _ 1 3 _ _ rfl (get_fillC (by omega)) rfl (by decide) (Nat.zero_le _) (by decide) (by simp) ?_
          refine St.le.to ?_
          conv => whnf
          repeat' (first | exact le_closeC [] (by omega) (by rw [hpk]; rfl) (ownI_pure _) rfl | refine And.intro ?_ ?_)
          repeat' (first
            | exact trivial
            | exact rfl
            | exact pureL_ints _ _
            | exact Or.inl (And.intro rfl rfl)
            | exact le_ints rfl
            | exact pureL_ml _
            | refine Or.inr ?_
            | refine And.intro ?_ ?_
            | exact Nat.le_of_ble_eq_true rfl
            | exact int_eq (by rw [IntWalk.i64_in _ (by omega)] <;> omega))
        · have he : k = ((M.map Prod.snd).map (turned (toTo (M.map Prod.snd) zs.length zs.length))).length := by omega
          have e := fillC_all (f := ownI 3) (l := (M.map Prod.snd).map (turned (toTo (M.map Prod.snd) zs.length zs.length))) (k := k) (u := .nil) he
          conv => whnf
          repeat' (first
            | (refine aGet_in rfl ?_; conv => whnf)
            | (refine And.intro (by omega) ?_; conv => whnf)
            | (refine And.intro (Nat.le_of_ble_eq_true rfl) ?_; conv => whnf)
            | (refine callG_t ?_; conv => whnf)
            | (refine append_same ?_; conv => whnf)
            | (refine get_ml_n (by omega) ?_; conv => whnf)
            | (refine pickNums_calln (by omega) (by assumption) ?_; conv => whnf)
            | (refine takeN_in ?_; conv => whnf)
            | (refine And.intro (pureL_ints _ _) ?_; conv => whnf)
            | (refine cut_all (by simp only [List.length_map]; omega) (scalL_ints _ _) ?_; conv => whnf)
            | (refine set_force ?_; conv => whnf)
            | (refine And.intro (by kernel_rfl) ?_; conv => whnf)
            | (refine aIf_dec (fun _ => ?_) (fun _ => ?_) <;> conv => whnf))
          all_goals (first | (exfalso; omega) | skip)
          rw [e]
          exact retIS rfl (by decide) (by decide) (by decide) rfl rfl rfl rfl (by rw [hLl]; rfl) rfl
end Go.Proofs.Ytmgggbgejdkamaa

/- Two index sums and a bool handed back. -/
namespace Go.Am
open Go.RowKit
/-- Two index sums in six new rows, and a bool. -/
def fnIS2B {ι : Type} (t tt : TypeId) (args : ι → List AV) (pre : ι → Prop) (M N : ι → Sm) (b : ι → Bool) : CSpec :=
  { ι := ι, inout := [], args := args, ins := fun _ => [], pre := pre, post := fun x r ic news => ic = [] ∧ r = .tup [.agg [.ref 0 0 0 (M x).1.length, .ref 1 0 0 (M x).2.1.length, .ref 2 0 0 (M x).2.2.length], .agg [.ref 3 0 0 (N x).1.length, .ref 4 0 0 (N x).2.1.length, .ref 5 0 0 (N x).2.2.length], .bool (b x)] ∧ news = smRows t tt 0 (M x) ++ smRows t tt 0 (N x) }
theorem news_sm2 {env : List AV} {rows : List Row} {ctr low : Nat} {T : List Nat} {t tt : TypeId} {M N : Sm} : (⟨env, rows, ctr, low⟩ : St).news T (smRows t tt 0 M ++ smRows t tt 0 N) = smRows t tt ctr M ++ smRows t tt ctr N := by
  have h1 := news_sm (env := env) (rows := rows) (ctr := ctr) (low := low) (T := T) (t := t) (tt := tt) (M := M)
  have h2 := news_sm (env := env) (rows := rows) (ctr := ctr) (low := low) (T := T) (t := t) (tt := tt) (M := N)
  unfold St.news at h1 h2 ⊢
  rw [List.map_append, h1, h2]
theorem callIS2B_in {P : Program} {f : FuncId} {ι : Type} {t tt : TypeId} {args : ι → List AV} {pre : ι → Prop} {M N : ι → Sm} {b : ι → Bool} {env : List AV} {rows : List Row} {ctr low : Nat} {k : AV → St → Prop} (hs : Sound P f (fnIS2B t tt args pre M N b)) (x : ι) (hpre : pre x)
    (hk : k (.tup [.agg [.ref rows.length ctr 0 (M x).1.length, .ref (rows.length + 1) ctr 0 (M x).2.1.length, .ref (rows.length + 2) ctr 0 (M x).2.2.length], .agg [.ref (rows.length + 3) ctr 0 (N x).1.length, .ref (rows.length + 4) ctr 0 (N x).2.1.length, .ref (rows.length + 5) ctr 0 (N x).2.2.length], .bool (b x)]) ⟨env, rows ++ (smRows t tt ctr (M x) ++ smRows t tt ctr (N x)), ctr + 1, low⟩) : CallB P f ⟨env, rows, ctr, low⟩ (args x) k := callB_in (sp := fnIS2B t tt args pre M N b) hs rfl x rfl hpre (by
  rintro r news ⟨-, rfl, rfl⟩
  rw [news_sm2]
  simpa [AV.back, backL, backT, backV, Nat.add_comm] using hk)
theorem retIS2B {env : List AV} {rows : List Row} {ctr τ1 τ2 τ3 τ4 τ5 τ6 v1 v2 v3 v4 v5 v6 n1 n2 n3 n4 n5 n6 : Nat} {t tt : TypeId} {xs zs xs' zs' : List Int} {yss yss' : List (List Int)} {M N : Sm} {b b' : Bool} (hM : M = (xs, yss, zs)) (hN : N = (xs', yss', zs')) (hb : b = b') (hn : [τ1, τ2, τ3, τ4, τ5, τ6].Nodup)
    (h1 : rows[τ1]? = some ⟨v1, t, 1, xs.map (.int .i64)⟩) (h2 : rows[τ2]? = some ⟨v2, tt, 1, yss.map (ownI t)⟩) (h3 : rows[τ3]? = some ⟨v3, t, 1, zs.map (.int .i64)⟩)
    (h4 : rows[τ4]? = some ⟨v4, t, 1, xs'.map (.int .i64)⟩) (h5 : rows[τ5]? = some ⟨v5, tt, 1, yss'.map (ownI t)⟩) (h6 : rows[τ6]? = some ⟨v6, t, 1, zs'.map (.int .i64)⟩)
    (e1 : n1 = xs.length) (e2 : n2 = yss.length) (e3 : n3 = zs.length) (e4 : n4 = xs'.length) (e5 : n5 = yss'.length) (e6 : n6 = zs'.length) :
    RetB ⟨env, rows, ctr, 0⟩ [] (fun r ic news => ic = [] ∧ r = .tup [.agg [.ref 0 0 0 M.1.length, .ref 1 0 0 M.2.1.length, .ref 2 0 0 M.2.2.length], .agg [.ref 3 0 0 N.1.length, .ref 4 0 0 N.2.1.length, .ref 5 0 0 N.2.2.length], .bool b'] ∧ news = smRows t tt 0 M ++ smRows t tt 0 N) (.tup [.agg [.ref τ1 v1 0 n1, .ref τ2 v2 0 n2, .ref τ3 v3 0 n3], .agg [.ref τ4 v4 0 n4, .ref τ5 v5 0 n5, .ref τ6 v6 0 n6], .bool b]) := by
  subst hM; subst hN; subst e1; subst e2; subst e3; subst e4; subst e5; subst e6; subst hb
  refine retP1 (Q := fun r news => r = .tup [.agg [.ref 0 0 0 xs.length, .ref 1 0 0 yss.length, .ref 2 0 0 zs.length], .agg [.ref 3 0 0 xs'.length, .ref 4 0 0 yss'.length, .ref 5 0 0 zs'.length], .bool b] ∧ news = smRows t tt 0 (xs, yss, zs) ++ smRows t tt 0 (xs', yss', zs')) (L := [τ1, τ2, τ3, τ4, τ5, τ6]) (by simpa using hn) ?_ ?_ ⟨rfl, rfl⟩
  · simp [insOf, smRows, h1, h2, h3, h4, h5, h6, protL_ren (protL_ints .i64 xs), protL_ren (protL_oi t yss), protL_ren (protL_ints .i64 zs), protL_ren (protL_ints .i64 xs'), protL_ren (protL_oi t yss'), protL_ren (protL_ints .i64 zs')]
  · simp only [List.nodup_cons, List.mem_cons, List.not_mem_nil, not_or, or_false] at hn
    obtain ⟨⟨a2, a3, a4, a5, a6⟩, ⟨b3, b4, b5, b6⟩, ⟨c4, c5, c6⟩, ⟨d5, d6⟩, e6, -⟩ := hn
    have f : ∀ {a b : Nat}, ¬ a = b → (a == b) = false := fun h => by simpa using h
    simp [AV.ren, renL, h1, h2, h3, h4, h5, h6, List.idxOf, List.findIdx_cons, f a2, f a3, f a4, f a5, f a6, f b3, f b4, f b5, f b6, f c4, f c5, f c6, f d5, f d6, f e6]
end Go.Am

/- Chapter 5: MergeOf of the program. -/
namespace Go.Proofs.Ytmgggbgejdkamaa
set_option maxRecDepth 20000
open Go.RowKit Go.Am
set_option linter.unusedSimpArgs false
theorem share_in2 {P : Program} {id : Nat} {ops : Array Oper} {s : St} {k : St → Prop} (t : PT) (C : St) (hm : P.follows .mixedOrders = true) (hB : treeB .any ops heavyS t = true) (hk : k C) (h : aTree P true ops t s (fun s' => s'.to C)) : aPlan P id ops s k := .inr ⟨C, ⟨hm, true, .inr ⟨t, hB, h⟩⟩, hk⟩
/-! A call whose argument has a list more that is a row. -/
theorem mapM_append {α β : Type} {f : α → Option β} : ∀ {xs ys : List α} {us vs : List β}, xs.mapM f = some us → ys.mapM f = some vs → (xs ++ ys).mapM f = some (us ++ vs) := fun {xs ys us vs} h1 h2 => by
  rw [List.mapM_append, h1]
  simp [h2]
theorem tree_pure {s : St} {f : Nat} : ∀ (us : List AV), (∀ u ∈ us, ∃ c n cs, u = .sl c n cs ∧ u.pure = true) → us.mapM (s.tree [] (f + 1)) = some us
  | [], _ => rfl
  | u :: us, h => by
    have h1 := tree_pure (s := s) (f := f) us fun x hx => h x (List.mem_cons_of_mem _ hx)
    obtain ⟨c, n, cs, rfl, hp⟩ := h u List.mem_cons_self
    have h2 : s.tree [] (f + 1) (.sl c n cs) = some (.sl c n cs) := by
      show (if (AV.sl c n cs).pure = true then some (AV.sl c n cs) else none) = _
      rw [if_pos hp]
    simp [List.mapM_cons, h1, h2]
theorem tree_ints {s : St} {f : Nat} : ∀ (zs : List Int), (zs.map (AV.int .i64)).mapM (s.tree [] (f + 1)) = some (zs.map (AV.int .i64))
  | [] => rfl
  | z :: zs => by
    have h1 := tree_ints (s := s) (f := f) zs
    have h2 : s.tree [] (f + 1) (.int .i64 z) = some (.int .i64 z) := rfl
    simp [List.mapM_cons, h1, h2]
attribute [local irreducible] aPlan aGet aIf aLoop aCall RetB NextB CallB CallG aCut aSet aAppend
theorem callG_own {P : Program} {f : FuncId} {c e τ v n σ w m : Nat} {zs o ls : List Int} {M : ML} {t tt : TypeId} {env : List AV} {rows : List Row} {ctr low : Nat} {k : AV → St → Prop} (hr : rows[τ]? = some ⟨v, tt, 1, M.map mlC ++ [.ref σ w 0 m]⟩) (hs : rows[σ]? = some ⟨w, t, 1, ls.map (.int .i64)⟩) (hn : n = M.length + 1) (hm : m = ls.length)
    (h : CallB P f ⟨env, rows, ctr, low⟩ [.agg [.sl c zs.length (zs.map (.int .i64)), .sl 0 (M ++ [(0, ls)]).length ((M ++ [(0, ls)]).map mlC), .sl e o.length (o.map (.int .i64))]] k) : CallG P f ⟨env, rows, ctr, low⟩ [.agg [.sl c zs.length (zs.map (.int .i64)), .ref τ v 0 n, .sl e o.length (o.map (.int .i64))]] k := by
  subst hn; subst hm
  refine callG_tree (us := [.agg [.sl c zs.length (zs.map (.int .i64)), .sl 0 (M ++ [(0, ls)]).length ((M ++ [(0, ls)]).map mlC), .sl e o.length (o.map (.int .i64))]]) ?_ h
  have p1 : ∀ (c : Nat) (zs : List Int), (AV.sl c zs.length (zs.map (.int .i64))).pure = true := fun c zs => slI_pure c zs
  have tsl : ∀ (g c : Nat) (zs : List Int), (⟨env, rows, ctr, low⟩ : St).tree [] (g + 1) (.sl c zs.length (zs.map (.int .i64))) = some (.sl c zs.length (zs.map (.int .i64))) := fun g c zs => by
    show (if (AV.sl c zs.length (zs.map (.int .i64))).pure = true then some (AV.sl c zs.length (zs.map (.int .i64))) else none) = _
    rw [if_pos (p1 c zs)]
  have t1 : ∀ g, (⟨env, rows, ctr, low⟩ : St).tree [] (g + 2) (.ref σ w 0 ls.length) = some (.sl 0 ls.length (ls.map (.int .i64))) := fun g => by
    refine tree_ref hs ⟨rfl, by simp, by simp⟩ ?_
    have e0 : ((ls.map (AV.int .i64)).drop 0).take (ls.length * 1) = ls.map (AV.int .i64) := List.take_of_length_le (by simp)
    show (((ls.map (AV.int .i64)).drop 0).take (ls.length * 1)).mapM _ = _
    rw [e0]; exact tree_ints ls
  have t2 : ∀ g, (⟨env, rows, ctr, low⟩ : St).tree [] (g + 3) (.ref τ v 0 (M.length + 1)) = some (.sl 0 (M ++ [(0, ls)]).length ((M ++ [(0, ls)]).map mlC)) := fun g => by
    have hl : (M ++ [(0, ls)]).length = M.length + 1 := by simp
    rw [hl]
    refine tree_ref hr ⟨rfl, by simp, by simp⟩ ?_
    show (((M.map mlC ++ [AV.ref σ w 0 ls.length]).drop 0).take ((M.length + 1) * 1)).mapM _ = _
    have e0 : ((M.map mlC ++ [AV.ref σ w 0 ls.length]).drop 0).take ((M.length + 1) * 1) = M.map mlC ++ [AV.ref σ w 0 ls.length] := List.take_of_length_le (by simp)
    rw [e0, List.map_append]
    refine mapM_append (tree_pure _ fun u hu => ?_) ?_
    · obtain ⟨x, -, rfl⟩ := List.mem_map.1 hu
      exact ⟨_, _, _, rfl, mlC_pure x⟩
    · simp [List.mapM_cons, t1, mlC, slI]
  show (callArg ⟨env, rows, ctr, low⟩ [] false (.agg [.sl c zs.length (zs.map (.int .i64)), .ref τ v 0 (M.length + 1), .sl e o.length (o.map (.int .i64))])).bind _ = _
  have e1 : callArg ⟨env, rows, ctr, low⟩ [] false (.agg [.sl c zs.length (zs.map (.int .i64)), .ref τ v 0 (M.length + 1), .sl e o.length (o.map (.int .i64))]) = some (.agg [.sl c zs.length (zs.map (.int .i64)), .sl 0 (M ++ [(0, ls)]).length ((M ++ [(0, ls)]).map mlC), .sl e o.length (o.map (.int .i64))]) := by
    show (⟨env, rows, ctr, low⟩ : St).tree [] _ (.agg [.sl c zs.length (zs.map (.int .i64)), .ref τ v 0 (M.length + 1), .sl e o.length (o.map (.int .i64))]) = _
    show (([.sl c zs.length (zs.map (.int .i64)), .ref τ v 0 (M.length + 1), .sl e o.length (o.map (.int .i64))] : List AV).mapM ((⟨env, rows, ctr, low⟩ : St).tree [] _)).map AV.agg = _
    simp [List.mapM_cons, tsl, t2]
  rw [e1]
  rfl
end Go.Proofs.Ytmgggbgejdkamaa

/- States told in full on the way to another one. -/
namespace Go.Am
open Go.RowKit
def forceCs (b : Bool) (r : Row) (k : Row → Prop) : Prop :=
  match r with
  | ⟨v, e, z, cs⟩ => forceN v fun v' => match b with
    | true => forceL cs fun cs' => k ⟨v', e, z, cs'⟩
    | false => k ⟨v', e, z, cs⟩
theorem forceCs_eq (b : Bool) (r : Row) (k : Row → Prop) : forceCs b r k = k r := by
  cases r
  unfold forceCs
  simp only [forceN_eq]
  cases b
  · rfl
  · simp only [forceL_eq]
def forceBs (bs : List Bool) (rs : List Row) (k : List Row → Prop) : Prop :=
  match rs with
  | [] => k []
  | r :: rs => match bs with
    | [] => forceCs false r fun r' => forceBs [] rs fun rs' => k (r' :: rs')
    | b :: bs => forceCs b r fun r' => forceBs bs rs fun rs' => k (r' :: rs')
theorem forceBs_eq : ∀ (rs : List Row) (bs : List Bool) (k : List Row → Prop), forceBs bs rs k = k rs
  | [], bs, k => by cases bs <;> rfl
  | r :: rs, [], k => by
    unfold forceBs
    simp only [forceCs_eq, forceBs_eq rs]
  | r :: rs, b :: bs, k => by
    unfold forceBs
    simp only [forceCs_eq, forceBs_eq rs]
def forceSt (bs : List Bool) (s : St) (k : St → Prop) : Prop :=
  match s with
  | ⟨env, rows, ctr, low⟩ => forceE env fun env' => forceBs bs rows fun rows' => forceN ctr fun ctr' => forceN low fun low' => k ⟨env', rows', ctr', low'⟩
theorem forceSt_eq (bs : List Bool) (s : St) (k : St → Prop) : forceSt bs s k = k s := by
  cases s; unfold forceSt; simp only; rw [forceE_eq, forceBs_eq, forceN_eq, forceN_eq]
/-- A state on its way, told in full; bs: the rows whose cells are told, too. -/
theorem to_force {s C : St} (bs : List Bool) (h : forceSt bs s fun s' => s'.to C) : s.to C := by rw [forceSt_eq] at h; exact h
end Go.Am
