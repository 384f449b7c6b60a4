import Derived.Test.YtmgggbgejdkamaaM01x21
import Derived.Test.YtmgggbgejdkamaaM01x15
import Derived.Test.YtmgggbgejdkamaaM01x16
import Derived.Test.YtmgggbgejdkamaaM01x18
/- Chapter 5: all orders: mathematics. -/
namespace Go.Proofs.Ytmgggbgejdkamaa
set_option maxRecDepth 20000
open Go.RowKit Go.Am
set_option linter.unusedSimpArgs false
/-- All orders of an index sum of m factors. -/
def ords : Nat → Sm → L3
  | 0, _ => []
  | m + 1, S => if S.2.1.length = 1 then [[]] else (prO S.2.1.length S.2.1.length).flatMap fun p => if nrw S p then (ords m (stp S p)).map (fun r => p :: r) else []
def ordE (m : Nat) (S : Sm) (p : List Int) : L3 := if nrw S p then (ords m (stp S p)).map (fun r => p :: r) else []
def ordF (m : Nat) (S : Sm) (L : List (List Int)) : L3 := L.flatMap (ordE m S)
theorem ords_1 {m : Nat} {S : Sm} (h : S.2.1.length = 1) : ords (m + 1) S = [[]] := if_pos h
theorem ords_s {m : Nat} {S : Sm} (h : S.2.1.length ≠ 1) : ords (m + 1) S = ordF m S (prO S.2.1.length S.2.1.length) := if_neg h
theorem ordE_t {m : Nat} {S : Sm} {p : List Int} (h : nrw S p) : ordE m S p = (ords m (stp S p)).map (fun r => p :: r) := if_pos h
theorem ordE_f {m : Nat} {S : Sm} {p : List Int} (h : ¬ nrw S p) : ordE m S p = [] := if_neg h
theorem ordF_snoc (m : Nat) (S : Sm) (L : List (List Int)) (p : List Int) : ordF m S (L ++ [p]) = ordF m S L ++ ordE m S p := by simp [ordF]
/-- Each order has a pair less than there are factors, each of two. -/
theorem ords_len : ∀ (m : Nat) (S : Sm), S.2.1.length = m → ∀ o ∈ ords m S, o.length + 1 = m ∧ ∀ p ∈ o, p.length = 2
  | 0, _, _, o, ho => nomatch ho
  | m + 1, S, h, o, ho => by
    by_cases h1 : S.2.1.length = 1
    · rw [ords_1 h1] at ho
      obtain rfl := List.mem_singleton.1 ho
      exact ⟨by simp; omega, fun p hp => nomatch hp⟩
    · rw [ords_s h1] at ho
      obtain ⟨p, hp, ho⟩ := List.mem_flatMap.1 ho
      have hip := prO_is S.2.1.length (Nat.le_refl _) p hp
      by_cases hn : nrw S p
      · rw [ordE_t hn] at ho
        obtain ⟨r, hr, rfl⟩ := List.mem_map.1 ho
        have hfl : (stp S p).2.1.length + 1 = S.2.1.length := mrg_fl ⟨hip.2.1, hip.2.2.1, hip.2.2.2⟩
        obtain ⟨e1, e2⟩ := ords_len m (stp S p) (by omega) r hr
        refine ⟨by simp; omega, fun q hq => ?_⟩
        rcases List.mem_cons.1 hq with rfl | hq
        · exact hip.1
        · exact e2 q hq
      · rw [ordE_f hn] at ho; exact nomatch ho
theorem flat_le {α β : Type} {f : α → List β} {B : Nat} : ∀ (L : List α), (∀ x ∈ L, (f x).length ≤ B) → (L.flatMap f).length ≤ L.length * B
  | [], _ => by simp
  | x :: L, h => by
    have h1 := h x List.mem_cons_self
    have h2 := flat_le L fun y hy => h y (List.mem_cons_of_mem _ hy)
    rw [List.flatMap_cons, List.length_append, List.length_cons, Nat.add_mul, Nat.one_mul]
    omega
def ordB : Nat → Nat
  | 0 => 0
  | 1 => 1
  | 2 => 1
  | 3 => 3
  | _ => 18
theorem prO_cnt : ∀ n, n ≤ 4 → (prO n n).length = n * (n - 1) / 2
  | 0, _ => rfl
  | 1, _ => rfl
  | 2, _ => rfl
  | 3, _ => rfl
  | 4, _ => rfl
  | _ + 5, h => by omega
theorem ords_cnt : ∀ (m : Nat) (S : Sm), m ≤ 4 → S.2.1.length = m → (ords m S).length ≤ ordB m
  | 0, _, _, _ => Nat.le_refl _
  | m + 1, S, hm, h => by
    by_cases h1 : S.2.1.length = 1
    · rw [ords_1 h1]
      have : m = 0 := by omega
      subst this; exact Nat.le_refl _
    · rw [ords_s h1]
      have hc := prO_cnt S.2.1.length (by omega)
      have := flat_le (f := ordE m S) (B := ordB m) (prO S.2.1.length S.2.1.length) fun p hp => by
        have hip := prO_is S.2.1.length (Nat.le_refl _) p hp
        by_cases hn : nrw S p
        · rw [ordE_t hn, List.length_map]
          have hfl : (stp S p).2.1.length + 1 = S.2.1.length := mrg_fl ⟨hip.2.1, hip.2.2.1, hip.2.2.2⟩
          exact ords_cnt m (stp S p) (by omega) (by omega)
        · rw [ordE_f hn]; exact Nat.zero_le _
      refine Nat.le_trans this ?_
      rw [hc, h]
      match m, hm with
      | 0, _ => exact absurd h h1
      | 1, _ => exact Nat.le_of_ble_eq_true rfl
      | 2, _ => exact Nat.le_of_ble_eq_true rfl
      | 3, _ => exact Nat.le_of_ble_eq_true rfl
theorem ordF_cnt {m : Nat} {S : Sm} {L : List (List Int)} (hm : m ≤ 3) (hS : S.2.1.length = m + 1) (hL : ∀ p ∈ L, isP S.2.1.length p) : (ordF m S L).length ≤ L.length * 18 := by
  refine flat_le L fun p hp => ?_
  have hip := hL p hp
  by_cases hn : nrw S p
  · rw [ordE_t hn, List.length_map]
    have hfl : (stp S p).2.1.length + 1 = S.2.1.length := mrg_fl ⟨hip.2.1, hip.2.2.1, hip.2.2.2⟩
    have := ords_cnt m (stp S p) (by omega) (by omega)
    refine Nat.le_trans this ?_
    match m, hm with
    | 0, _ => exact Nat.le_of_ble_eq_true rfl
    | 1, _ => exact Nat.le_of_ble_eq_true rfl
    | 2, _ => exact Nat.le_of_ble_eq_true rfl
    | 3, _ => exact Nat.le_of_ble_eq_true rfl
  · rw [ordE_f hn]; exact Nat.zero_le _
/-- A row of lists of lists whose first ones are forgotten. -/
def unk3 (t tt : TypeId) (L : L3) (k : Nat) : List AV := List.replicate k .un ++ (L.drop k).map (own2 t tt)
theorem unk3_at {t tt : TypeId} {L : L3} {k : Nat} (h : k < L.length) : unk3 t tt L k = List.replicate k .un ++ own2 t tt (L.getD k []) :: (L.drop (k + 1)).map (own2 t tt) := by
  unfold unk3
  have e : L.drop k = L.getD k [] :: L.drop (k + 1) := by
    rw [List.drop_eq_getElem_cons h]
    simp [List.getD, List.getElem?_eq_getElem h]
  rw [e]; rfl
theorem le_unk3R {t tt : TypeId} {L : L3} {k : Nat} {s s' : St} {p : Prop} : p ∨ subL s s' (unk3 t tt L k) (unk3 t tt L k) := .inr (subL_un _ _ _ _ (subL_pure _ _ _ fun c hc => by
  obtain ⟨xs, -, rfl⟩ := List.mem_map.1 hc
  exact ⟨_, _, _, _, rfl, own2_pure _ _ _⟩) k)
theorem le_unk3 {t tt : TypeId} {L : L3} {k j : Nat} {s s' : St} {u : AV} {p : Prop} (hj : j = k) (h : k < L.length) : p ∨ subL s s' ((unk3 t tt L k).set j u) (unk3 t tt L (k + 1)) := by
  rw [hj]
  refine .inr ?_
  rw [unk3_at h, List.set_append_right _ _ (by simp)]
  have e : unk3 t tt L (k + 1) = List.replicate k .un ++ .un :: (L.drop (k + 1)).map (own2 t tt) := by
    unfold unk3
    rw [List.replicate_succ', List.append_assoc]; rfl
  rw [e]
  refine subL_un _ _ _ _ ?_ k
  simp only [List.length_replicate, Nat.sub_self, List.set_cons_zero]
  refine ⟨by cases u <;> rfl, subL_pure _ _ _ fun c hc => ?_⟩
  obtain ⟨xs, -, rfl⟩ := List.mem_map.1 hc
  exact ⟨_, _, _, _, rfl, own2_pure _ _ _⟩
theorem get_unk3 {t tt : TypeId} {L : L3} {k : Nat} {o : List (List Int)} {K : AV → Prop} (h : k < L.length) (e : L.getD k [] = o) (hK : K (own2 t tt o)) : aGet ((unk3 t tt L k).drop (0 + (k : Int).toNat * 1)) 0 K := by
  rw [unk3_at h, Int.toNat_natCast, Nat.mul_one, Nat.zero_add, List.drop_left' (by simp), e]
  exact aGet_in rfl hK
end Go.Proofs.Ytmgggbgejdkamaa

/- Chapter 5: all orders, numbered anew. -/
namespace Go.Proofs.Ytmgggbgejdkamaa
set_option maxRecDepth 20000
open Go.RowKit Go.Am
set_option linter.unusedSimpArgs false
theorem nrw_own {S : Sm} (h : okS S) (p : List Int) : nrw (own S) p ↔ nrw S p := by unfold nrw; rw [lf_own_len h]
theorem flat_congr {α β : Type} {f g : α → List β} : ∀ (L : List α), (∀ x ∈ L, f x = g x) → L.flatMap f = L.flatMap g
  | [], _ => rfl
  | x :: L, h => by
    rw [List.flatMap_cons, List.flatMap_cons, h x List.mem_cons_self, flat_congr L fun y hy => h y (List.mem_cons_of_mem _ hy)]
theorem ords_own : ∀ (m : Nat) (S : Sm), okS S → ords m (own S) = ords m S
  | 0, _, _ => rfl
  | m + 1, S, h => by
    have e := own_fl S
    by_cases h1 : S.2.1.length = 1
    · rw [ords_1 h1, ords_1 (by rw [e]; exact h1)]
    · rw [ords_s h1, ords_s (by rw [e]; exact h1), e]
      refine flat_congr _ fun p hp => ?_
      obtain ⟨-, i2, i3, i4⟩ := prO_is S.2.1.length (Nat.le_refl _) p hp
      by_cases hn : nrw S p
      · rw [ordE_t hn, ordE_t ((nrw_own h p).2 hn)]
        have hr : rng S (p.getD 0 0) (p.getD 1 0) := ⟨i2, i3, i4⟩
        have k1 : okS (stp S p) := mrg_ok h hr hn
        have k2 : okS (stp (own S) p) := mrg_ok (own_ok h) ((rng_own S _ _).2 hr) ((nrw_own h p).2 hn)
        have e2 : own (stp (own S) p) = own (stp S p) := own_mrg h ⟨i2, Int.le_trans i2 (Int.le_of_lt i3)⟩
        rw [← ords_own m (stp (own S) p) k2, e2, ords_own m (stp S p) k1]
      · rw [ordE_f hn, ordE_f fun h' => hn ((nrw_own h p).1 h')]
/-- The orders of what may be no index sum. -/
def orM (m : Nat) (S : Sm) : L3 := if sumP S.1 S.2.1 S.2.2 then ords m S else []
theorem orM_t {m : Nat} {S : Sm} (h : sumP S.1 S.2.1 S.2.2) : orM m S = ords m S := if_pos h
theorem orM_f {m : Nat} {S : Sm} (h : ¬ sumP S.1 S.2.1 S.2.2) : orM m S = [] := if_neg h
theorem no_sum : ¬ sumP noS.1 noS.2.1 noS.2.2 := fun h => absurd h.2.2.1.1 (by decide)
/-- What follows one pair. -/
theorem orM_mg {m : Nat} {S : Sm} {p : List Int} (hs : sumP S.1 S.2.1 S.2.2) (hp : isP S.2.1.length p) (hm : S.2.1.length = m + 1) : (sumP (mgW S (p.getD (Int.toNat 0) 0) (p.getD (Int.toNat 1) 0)).1 (mgW S (p.getD (Int.toNat 0) 0) (p.getD (Int.toNat 1) 0)).2.1 (mgW S (p.getD (Int.toNat 0) 0) (p.getD (Int.toNat 1) 0)).2.2 → (mgW S (p.getD (Int.toNat 0) 0) (p.getD (Int.toNat 1) 0)).2.1.length = m) ∧ ordE m S p = (orM m (mgW S (p.getD (Int.toNat 0) 0) (p.getD (Int.toNat 1) 0))).map fun r => p :: r := by
  obtain ⟨i1, i2, i3, i4⟩ := hp
  have hr : rng S (p.getD 0 0) (p.getD 1 0) := ⟨i2, i3, i4⟩
  by_cases hn : nrw S p
  · have hmg : mgP S (p.getD (Int.toNat 0) 0) (p.getD (Int.toNat 1) 0) := (mgP_pr0 hs i1).2 ⟨i1, hr, hn⟩
    rw [mgW_t hmg]
    have k1 : okS (stp S p) := mrg_ok (okP_of hs) hr hn
    have hfl : (stp S p).2.1.length + 1 = S.2.1.length := mrg_fl hr
    have e : own (mrg S (p.getD (Int.toNat 0) 0) (p.getD (Int.toNat 1) 0)) = own (stp S p) := rfl
    rw [e, orM_t (S := own (stp S p)) (own_sumP k1), ords_own m _ k1, ordE_t hn]
    exact ⟨fun _ => by rw [own_fl]; omega, rfl⟩
  · have hmg : ¬ mgP S (p.getD (Int.toNat 0) 0) (p.getD (Int.toNat 1) 0) := fun h => hn h.2.2
    rw [mgW_f hmg, orM_f no_sum, ordE_f hn]
    exact ⟨fun h => absurd h no_sum, rfl⟩
theorem orM_18 {m : Nat} {S : Sm} (hm : m ≤ 3) (h : sumP S.1 S.2.1 S.2.2 → S.2.1.length = m) : (orM m S).length ≤ 18 := by
  by_cases hs : sumP S.1 S.2.1 S.2.2
  · rw [orM_t hs]
    have := ords_cnt m S (by omega) (h hs)
    match m, hm with
    | 0, _ => exact Nat.le_trans this (Nat.le_of_ble_eq_true rfl)
    | 1, _ => exact Nat.le_trans this (Nat.le_of_ble_eq_true rfl)
    | 2, _ => exact Nat.le_trans this (Nat.le_of_ble_eq_true rfl)
    | 3, _ => exact Nat.le_trans this (Nat.le_of_ble_eq_true rfl)
  · rw [orM_f hs]; exact Nat.zero_le _
theorem orM_len {m : Nat} {S : Sm} (h : sumP S.1 S.2.1 S.2.2 → S.2.1.length = m) : ∀ o ∈ orM m S, o.length + 1 = m ∧ ∀ p ∈ o, p.length = 2 := fun o ho => by
  by_cases hs : sumP S.1 S.2.1 S.2.2
  · rw [orM_t hs] at ho; exact ords_len m S (h hs) o ho
  · rw [orM_f hs] at ho; exact nomatch ho
end Go.Proofs.Ytmgggbgejdkamaa

/- Chapter 5: letters numbered anew by the model. -/
namespace Go.Proofs.Ytmgggbgejdkamaa
set_option maxRecDepth 20000
open Go.RowKit Go.Am
set_option linter.unusedSimpArgs false
attribute [local irreducible] aPlan aGet aIf aLoop aCall RetB NextB CallB CallG aCut aSet aAppend
theorem l1TurnN_sound : Sound Try.prog 100 (fnL (ι := Nat × List Int × Nat × List Int) 3 (fun | (c, xs, d, ax) => [.sl c xs.length (xs.map (.int .i64)), .sl d ax.length (ax.map (.int .i64))]) (fun | (_, xs, _, ax) => ax.length ≤ 1000 ∧ ∀ k, k < ax.length → 0 ≤ ax.getD k 0 ∧ ax.getD k 0 < xs.length) (fun | (_, xs, _, ax) => turned xs ax)) := by
  refine sound_of Try.func100 rfl (enters_of Try.func100 (by kernel_rfl) (by kernel_rfl)) ?_
  rintro ⟨c, xs, d, ax⟩ hpre
  obtain ⟨h3, hin⟩ : ax.length ≤ 1000 ∧ ∀ k, k < ax.length → 0 ≤ ax.getD k 0 ∧ ax.getD k 0 < xs.length := hpre
  conv => whnf
  repeat' (first
    | (refine append_same ?_; conv => whnf)
    | (refine And.intro (And.intro (by kernel_rfl) (And.intro rfl (Nat.le_of_ble_eq_true rfl))) ?_; conv => whnf))
  refine loop_u (ι := Nat) [true, true, false, false, false, true, true, false, false, false, false, false, false, false, false, false, false, false, false, false, false, false, false, false, false] (fun k => [(5, .ref 1 2 0 k), (6, .int .i64 k)]) (fun k => [(1, ((turned xs ax).take k).map (.int .i64))]) (fun k => k ≤ ax.length) (fun k => ax.length - k) (0) (Nat.zero_le _) ?_ ?_
  · conv => whnf
    repeat' (first
      | exact trivial
      | exact rfl
      | exact pureL_ints _ _
      | exact Or.inl (And.intro rfl rfl)
      | refine And.intro ?_ ?_
      | exact Nat.le_of_ble_eq_true rfl)
  · intro k hk
    have hk : k ≤ ax.length := hk
    have hin := hin k
    conv => whnf
    repeat' (first
      | (refine fun (_ : _ ≤ maxLen) => ?_; conv => whnf)
      | (refine get_nat (by omega) ?_; conv => whnf)
      | (refine get_int (by omega) ?_; conv => whnf)
      | (refine And.intro (by omega) ?_; conv => whnf)
      | (refine append_same ?_; conv => whnf)
      | (refine append_int rfl rfl (by first | rfl | (simp only [List.length_take, turned_length]; omega)) (by omega) (Nat.le_of_ble_eq_true rfl) ?_; conv => whnf)
      | (refine And.intro (And.intro (by kernel_rfl) (And.intro rfl (Nat.le_of_ble_eq_true rfl))) ?_; conv => whnf)
      | (refine aIf_dec (fun _ => ?_) (fun _ => ?_) <;> conv => whnf))
    · have e := take_next (l := turned xs ax) (k := k) (by rw [turned_length]; omega)
      rw [turned_getD (by omega)] at e
      refine next_u (k + 1) (show ax.length - (k + 1) < ax.length - k by omega) (by exact (by omega : k + 1 ≤ ax.length)) ?_
      rw [← e]
      conv => whnf
      repeat' (first
        | exact trivial
        | exact rfl
        | exact pureL_ints _ _
        | exact Or.inl (And.intro rfl rfl)
        | exact le_ints rfl
        | refine And.intro ?_ ?_
        | exact Nat.le_of_ble_eq_true rfl
        | exact int_eq (by rw [IntWalk.i64_in _ (by omega)] <;> omega))
    · have e : k = ax.length := by omega
      subst e
      have e : (turned xs ax).take ax.length = turned xs ax := List.take_of_length_le (by rw [turned_length]; exact Nat.le_refl _)
      rw [e]
      exact retL rfl rfl rfl (turned_length xs ax).symm
theorem l1TurnN_call {c d : Nat} {xs ax : List Int} {env : List AV} {rows : List Row} {ctr low : Nat} {k : AV → St → Prop} (hpre : ax.length ≤ 1000 ∧ ∀ k, k < ax.length → 0 ≤ ax.getD k 0 ∧ ax.getD k 0 < xs.length) (hk : k (.ref rows.length ctr 0 (turned xs ax).length) ⟨env, rows ++ [⟨ctr, 3, 1, (turned xs ax).map (.int .i64)⟩], ctr + 1, low⟩) :
    CallB Try.prog 100 ⟨env, rows, ctr, low⟩ [.sl c xs.length (xs.map (.int .i64)), .sl d ax.length (ax.map (.int .i64))] k := callL_in l1TurnN_sound (c, xs, d, ax) hpre hk
theorem l1TurnN_calln {c d n : Nat} {xs ax : List Int} {env : List AV} {rows : List Row} {ctr low : Nat} {k : AV → St → Prop} (hn : n = xs.length) (hpre : ax.length ≤ 1000 ∧ ∀ k, k < ax.length → 0 ≤ ax.getD k 0 ∧ ax.getD k 0 < xs.length) (hk : k (.ref rows.length ctr 0 (turned xs ax).length) ⟨env, rows ++ [⟨ctr, 3, 1, (turned xs ax).map (.int .i64)⟩], ctr + 1, low⟩) :
    CallB Try.prog 100 ⟨env, rows, ctr, low⟩ [.sl c n (xs.map (.int .i64)), .sl d ax.length (ax.map (.int .i64))] k := by
  subst hn; exact l1TurnN_call hpre hk
theorem le_snoc6 {t : TypeId} {fs : List (List Int)} {k : Nat} {xs : List Int} {u : AV} {p : Prop} (h : k < fs.length) (e : fs.getD k [] = xs) : (pureL (((fs.take k).map (ownI t) ++ [u]).set k (ownI t xs)) = true ∧ (fs.take (k + 1)).map (ownI t) = ((fs.take k).map (ownI t) ++ [u]).set k (ownI t xs)) ∨ p := by
  subst e; exact le_snoc5 h
def l5P (zs : List Int) (fs : List (List Int)) (o : List Int) : Prop := zs.length ≤ 5 ∧ fs.length ≤ 4 ∧ (∀ k, k < fs.length → (fs.getD k []).length ≤ 1000 ∧ ∀ j, j < (fs.getD k []).length → 0 ≤ (fs.getD k []).getD j 0 ∧ (fs.getD k []).getD j 0 < zs.length) ∧ (o.length ≤ 1000 ∧ ∀ j, j < o.length → 0 ≤ o.getD j 0 ∧ o.getD j 0 < zs.length)
set_option maxHeartbeats 4000000 in
theorem l5Own_sound : Sound Try.prog 69 (fnIS (ι := IS) 3 22 (fun | (c, zs, d, fs, e, o) => [.agg [.sl c zs.length (zs.map (.int .i64)), .sl d fs.length (fs.map (slI d)), .sl e o.length (o.map (.int .i64))]]) (fun | (_, zs, _, fs, _, o) => l5P zs fs o) (fun | (_, zs, _, fs, _, o) => ownM zs fs o)) := by
  refine sound_of Try.func69 rfl (enters_of Try.func69 (by kernel_rfl) (by kernel_rfl)) ?_
  rintro ⟨c, zs, d, fs, q, o⟩ hpre
  obtain ⟨hz, hf, hl, ho⟩ : l5P zs fs o := hpre
  have hmax : maxLen = 9223372036854775807 := rfl
  have ht0 : ∀ k, (toTo fs zs.length k).length = zs.length := fun k => toTo_length _ _ k
  have ho' : o.length ≤ 1000 ∧ ∀ j, j < o.length → 0 ≤ o.getD j 0 ∧ o.getD j 0 < (toTo fs zs.length zs.length).length := by rw [ht0]; exact ho
  conv => whnf
  repeat' (first
    | (refine plan_in (id := 8) [0, 1, 2, 3, 4, 5, 6, 7, 8, 9, 10] (by kernel_rfl) (by kernel_rfl) ?_; conv => whnf)
    | (refine plan_in (id := 12) [0, 1, 2, 3, 4, 5, 6, 7, 8, 9, 10, 11, 12] (by kernel_rfl) (by kernel_rfl) ?_; conv => whnf)
    | (refine fun (_ : _ ≤ maxLen) => ?_; conv => whnf)
    | (refine aGet_in rfl ?_; conv => whnf)
    | (refine And.intro (And.intro (Int.le_refl _) (And.intro (by kernel_rfl) (And.intro rfl (by kernel_rfl)))) (And.intro (And.intro (by omega) (And.intro (bytes_le (b := 8) rfl (by omega)) (by omega))) ?_); conv => whnf)
    | (refine And.intro rfl (And.intro (List.cons_ne_nil _ _) ?_); conv => whnf)
    | (refine And.intro (Nat.le_of_ble_eq_true rfl) ?_; conv => whnf)
    | (refine append_same ?_; conv => whnf)
    | (refine set_force ?_; conv => whnf)
    | (refine And.intro (by kernel_rfl) ?_; conv => whnf))
  all_goals (first | (exfalso; omega) | contradiction | skip)
  refine loop_u (ι := Nat) [false, true, true, true, true, true, false, false, false, false, false, false, false, false, false, false, false, false, false, false, false, false, false, false, false, false, false, false, false, false, false, false, false, false, false, false, false, false, false, false, false, false, false, false, false, false, false, false, false, false, false, false, false, false, false, false, false, false, false, false, false, false, false] (fun k => [(5, .int .i64 k)]) (fun k => [(5, (toTo fs zs.length k).map (.int .i64)), (6, (ownZ zs fs k).map (.int .i64)), (12, [.ref 6 7 0 (ownZ zs fs k).length, .ref 7 8 0 0, .ref 8 9 0 0])]) (fun k => k ≤ zs.length) (fun k => zs.length - k) (0) (Nat.zero_le _) ?_ ?_
  · have e0 : rep (zs.length : Int).toNat [AV.int .i64 0] = (toTo fs zs.length 0).map (.int .i64) := by rw [rep_ints]; rfl
    conv => whnf
    repeat' (first | exact le_ints e0 | refine And.intro ?_ ?_)
    repeat' (first
      | exact trivial
      | exact rfl
      | exact pureL_ints _ _
      | exact Or.inl (And.intro rfl rfl)
      | exact pureL_ii _ _
      | refine Or.inr ?_
      | refine And.intro ?_ ?_
      | exact Nat.le_of_ble_eq_true rfl)
  · rintro k hk
    have hk : k ≤ zs.length := hk
    have hol := ownZ_length zs fs k
    have hrl := rk_le fs k
    have htl := ht0 k
    by_cases hlt : k < zs.length
    · by_cases hu : usedP fs k
      · have e1 := ownZ_t (zs := zs) hu
        have e2 := toTo_t (n := zs.length) hu
        rw [← hol] at e2
        conv => whnf
        repeat' (first
          | (refine plan_in (id := 8) [0, 1, 2, 3, 4, 5, 6, 7, 8, 9, 10] (by kernel_rfl) (by kernel_rfl) ?_; conv => whnf)
          | (refine plan_in (id := 12) [0, 1, 2, 3, 4, 5, 6, 7, 8, 9, 10, 11, 12] (by kernel_rfl) (by kernel_rfl) ?_; conv => whnf)
          | (refine fun (_ : _ ≤ maxLen) => ?_; conv => whnf)
          | (refine get_nat (by omega) ?_; conv => whnf)
          | (refine aGet_in rfl ?_; conv => whnf)
          | (refine And.intro (by omega) ?_; conv => whnf)
          | (refine load_same ?_; conv => whnf)
          | (refine And.intro (Nat.le_of_ble_eq_true rfl) ?_; conv => whnf)
          | (refine callG_t ?_; conv => whnf)
          | (refine append_same ?_; conv => whnf)
          | (refine And.intro (pureL_ii _ _) ?_; conv => whnf)
          | (refine l4Used_call trivial ?_; conv => whnf)
          | (refine takeN_in ?_; conv => whnf)
          | (refine And.intro (pureL_ints _ _) ?_; conv => whnf)
          | (refine append_int rfl rfl (by first | rfl | (simp only [List.length_take, turned_length]; omega)) (by omega) (Nat.le_of_ble_eq_true rfl) ?_; conv => whnf)
          | (refine And.intro rfl (And.intro rfl (And.intro (by first | omega | (rw [List.length_map]; omega)) ?_)); conv => whnf)
          | (refine set_nat ?_ (by omega); conv => whnf)
          | (refine set_force ?_; conv => whnf)
          | (refine And.intro (And.intro (by kernel_rfl) (And.intro rfl (Nat.le_of_ble_eq_true rfl))) ?_; conv => whnf)
          | (refine And.intro (by kernel_rfl) ?_; conv => whnf)
          | (refine aIf_dec (fun _ => ?_) (fun _ => ?_) <;> conv => whnf))
        all_goals (first | (exfalso; omega) | contradiction | skip)
        refine next_u (k + 1) (show zs.length - (k + 1) < zs.length - k by omega) (by exact (by omega : k + 1 ≤ zs.length)) ?_
        rw [e1, e2]
        conv => whnf
        repeat' (first
          | exact trivial
          | exact rfl
          | exact pureL_ints _ _
          | exact Or.inl (And.intro rfl rfl)
          | exact le_ints rfl
          | exact pureL_ii _ _
          | refine Or.inr ?_
          | refine And.intro ?_ ?_
          | exact Nat.le_of_ble_eq_true rfl
          | exact List.length_append
          | exact int_eq (by rw [IntWalk.i64_in _ (by omega)] <;> omega))
      · have e1 := ownZ_f (zs := zs) hu
        have e2 := toTo_f (n := zs.length) hu
        conv => whnf
        repeat' (first
          | (refine plan_in (id := 8) [0, 1, 2, 3, 4, 5, 6, 7, 8, 9, 10] (by kernel_rfl) (by kernel_rfl) ?_; conv => whnf)
          | (refine plan_in (id := 12) [0, 1, 2, 3, 4, 5, 6, 7, 8, 9, 10, 11, 12] (by kernel_rfl) (by kernel_rfl) ?_; conv => whnf)
          | (refine fun (_ : _ ≤ maxLen) => ?_; conv => whnf)
          | (refine get_nat (by omega) ?_; conv => whnf)
          | (refine aGet_in rfl ?_; conv => whnf)
          | (refine And.intro (by omega) ?_; conv => whnf)
          | (refine load_same ?_; conv => whnf)
          | (refine And.intro (Nat.le_of_ble_eq_true rfl) ?_; conv => whnf)
          | (refine callG_t ?_; conv => whnf)
          | (refine append_same ?_; conv => whnf)
          | (refine And.intro (pureL_ii _ _) ?_; conv => whnf)
          | (refine l4Used_call trivial ?_; conv => whnf)
          | (refine takeN_in ?_; conv => whnf)
          | (refine And.intro (pureL_ints _ _) ?_; conv => whnf)
          | (refine append_int rfl rfl (by first | rfl | (simp only [List.length_take, turned_length]; omega)) (by omega) (Nat.le_of_ble_eq_true rfl) ?_; conv => whnf)
          | (refine And.intro rfl (And.intro rfl (And.intro (by first | omega | (rw [List.length_map]; omega)) ?_)); conv => whnf)
          | (refine set_nat ?_ (by omega); conv => whnf)
          | (refine set_force ?_; conv => whnf)
          | (refine And.intro (And.intro (by kernel_rfl) (And.intro rfl (Nat.le_of_ble_eq_true rfl))) ?_; conv => whnf)
          | (refine And.intro (by kernel_rfl) ?_; conv => whnf)
          | (refine aIf_dec (fun _ => ?_) (fun _ => ?_) <;> conv => whnf))
        all_goals (first | (exfalso; omega) | contradiction | skip)
        refine next_u (k + 1) (show zs.length - (k + 1) < zs.length - k by omega) (by exact (by omega : k + 1 ≤ zs.length)) ?_
        rw [e1, e2]
        conv => whnf
        repeat' (first
          | exact trivial
          | exact rfl
          | exact pureL_ints _ _
          | exact Or.inl (And.intro rfl rfl)
          | exact le_ints rfl
          | exact pureL_ii _ _
          | refine Or.inr ?_
          | refine And.intro ?_ ?_
          | exact Nat.le_of_ble_eq_true rfl
          | exact int_eq (by rw [IntWalk.i64_in _ (by omega)] <;> omega))
    · have he : k = zs.length := by omega
      subst he
      have hLl : (fs.map (turned (toTo fs zs.length zs.length))).length = fs.length := List.length_map _
      have hLk : ∀ k, (fs.map (turned (toTo fs zs.length zs.length))).getD k [] = turned (toTo fs zs.length zs.length) (fs.getD k []) := fun k => getD_mapL rfl _ _
      conv => whnf
      repeat' (first
        | (refine plan_in (id := 8) [0, 1, 2, 3, 4, 5, 6, 7, 8, 9, 10] (by kernel_rfl) (by kernel_rfl) ?_; conv => whnf)
        | (refine plan_in (id := 12) [0, 1, 2, 3, 4, 5, 6, 7, 8, 9, 10, 11, 12] (by kernel_rfl) (by kernel_rfl) ?_; conv => whnf)
        | (refine fun (_ : _ ≤ maxLen) => ?_; conv => whnf)
        | (refine get_nat (by omega) ?_; conv => whnf)
        | (refine aGet_in rfl ?_; conv => whnf)
        | (refine And.intro (by omega) ?_; conv => whnf)
        | (refine load_same ?_; conv => whnf)
        | (refine callG_t ?_; conv => whnf)
        | (refine append_same ?_; conv => whnf)
        | (refine l4Used_call trivial ?_; conv => whnf)
        | (refine takeN_in ?_; conv => whnf)
        | (refine append_int rfl rfl (by first | rfl | (simp only [List.length_take, turned_length]; omega)) (by omega) (Nat.le_of_ble_eq_true rfl) ?_; conv => whnf)
        | (refine set_nat ?_ (by omega); conv => whnf)
        | (refine set_force ?_; conv => whnf)
        | (refine aIf_dec (fun _ => ?_) (fun _ => ?_) <;> conv => whnf))
      all_goals (first | (exfalso; omega) | contradiction | skip)
      refine loop_ut (ι := Nat) [false, true, true, true, true, false, true, false, false, false, false, false, false, false, false, false, false, false, false, false, false, false, false, false, false, false, false, false, false, false, false, false, false, false, false, false, false, false, false, false, false, false, false, false, false, false, false, false, false, false, false, false, false, false, false, false, false, false, false, false, false, false, false] (fun k => [(6, .int .i64 k)]) (fun k => [(7, ((fs.map (turned (toTo fs zs.length zs.length))).take k).map (ownI 3)), (12, [.ref 6 7 0 (ownZ zs fs zs.length).length, .ref 7 8 0 k, .ref 8 9 0 0])]) (fun k => k ≤ fs.length) (fun k => fs.length - k) (0) (Nat.zero_le _) ?_ ?_
      · conv => whnf
        refine St.le.to ?_
        conv => whnf
        repeat' (first
          | exact trivial
          | exact rfl
          | exact pureL_ints _ _
          | exact Or.inl (And.intro rfl rfl)
          | exact le_ints rfl
          | exact pureL_ii _ _
          | refine Or.inr ?_
          | refine And.intro ?_ ?_
          | exact Nat.le_of_ble_eq_true rfl)
      · rintro k hk
        have hk : k ≤ fs.length := hk
        have htk : ((fs.map (turned (toTo fs zs.length zs.length))).take k).length = k := by rw [List.length_take]; omega
        by_cases hlt : k < fs.length
        · have hpk := hLk k
          obtain ⟨i1, i2⟩ := hl k hlt
          have hpp : (fs.getD k []).length ≤ 1000 ∧ ∀ j, j < (fs.getD k []).length → 0 ≤ (fs.getD k []).getD j 0 ∧ (fs.getD k []).getD j 0 < (toTo fs zs.length zs.length).length := ⟨i1, by rw [htl]; exact i2⟩
          conv => whnf
          repeat' (first
            | (refine plan_in (id := 8) [0, 1, 2, 3, 4, 5, 6, 7, 8, 9, 10] (by kernel_rfl) (by kernel_rfl) ?_; conv => whnf)
            | (refine plan_in (id := 12) [0, 1, 2, 3, 4, 5, 6, 7, 8, 9, 10, 11, 12] (by kernel_rfl) (by kernel_rfl) ?_; conv => whnf)
            | (refine fun (_ : _ ≤ maxLen) => ?_; conv => whnf)
            | (refine aGet_in rfl ?_; conv => whnf)
            | (refine And.intro (by omega) ?_; conv => whnf)
            | (refine load_same ?_; conv => whnf)
            | (refine callG_t ?_; conv => whnf)
            | (refine append_same ?_; conv => whnf)
            | (refine get_ii_n (by omega) ?_; conv => whnf)
            | (refine l1TurnN_calln (by omega) (by assumption) ?_; conv => whnf)
            | (refine takeN_in ?_; conv => whnf)
            | (refine And.intro (pureL_ints _ _) ?_; conv => whnf)
            | (refine cut_all (by simp only [List.length_map]; omega) (scalL_ints _ _) ?_; conv => whnf)
            | (refine set_force ?_; conv => whnf)
            | (refine And.intro (And.intro (by kernel_rfl) (And.intro rfl (Nat.le_of_ble_eq_true rfl))) ?_; conv => whnf)
            | (refine aIf_dec (fun _ => ?_) (fun _ => ?_) <;> conv => whnf))
          all_goals (first | (exfalso; omega) | skip)
          refine append_ll rfl (by rw [List.length_map]; exact htk.symm) rfl rfl (by omega) (Nat.zero_le _) ?_
          conv => whnf
          repeat' (first
            | (refine plan_in (id := 8) [0, 1, 2, 3, 4, 5, 6, 7, 8, 9, 10] (by kernel_rfl) (by kernel_rfl) ?_; conv => whnf)
            | (refine plan_in (id := 12) [0, 1, 2, 3, 4, 5, 6, 7, 8, 9, 10, 11, 12] (by kernel_rfl) (by kernel_rfl) ?_; conv => whnf)
            | (refine And.intro (Nat.le_of_ble_eq_true rfl) ?_; conv => whnf)
            | (refine append_same ?_; conv => whnf)
            | (refine set_force ?_; conv => whnf)
            | (refine And.intro (by kernel_rfl) ?_; conv => whnf))
          refine next_ut (k + 1) (show fs.length - (k + 1) < fs.length - k by omega) (by exact (by omega : k + 1 ≤ fs.length)) ?_
          conv => whnf
          refine to_close 7 k 13 _ _ 1 3 _ _ rfl ((List.getElem?_append_right (by rw [List.length_map]; omega)).trans (by rw [List.length_map, htk, Nat.sub_self]; rfl)) rfl (by decide) (Nat.zero_le _) (by decide) (by simp) ?_
          refine St.le.to ?_
          conv => whnf
          repeat' (first | exact le_snoc6 (by omega) hpk | refine And.intro ?_ ?_)
          repeat' (first
            | exact trivial
            | exact rfl
            | exact pureL_ints _ _
            | exact Or.inl (And.intro rfl rfl)
            | exact le_ints rfl
            | exact pureL_ii _ _
            | refine Or.inr ?_
            | refine And.intro ?_ ?_
            | exact Nat.le_of_ble_eq_true rfl
            | exact int_eq (by rw [IntWalk.i64_in _ (by omega)] <;> omega))
        · have he : k = (fs.map (turned (toTo fs zs.length zs.length))).length := by omega
          have et : (fs.map (turned (toTo fs zs.length zs.length))).take k = fs.map (turned (toTo fs zs.length zs.length)) := List.take_of_length_le (by omega)
          rw [et]
          conv => whnf
          repeat' (first
            | (refine plan_in (id := 8) [0, 1, 2, 3, 4, 5, 6, 7, 8, 9, 10] (by kernel_rfl) (by kernel_rfl) ?_; conv => whnf)
            | (refine plan_in (id := 12) [0, 1, 2, 3, 4, 5, 6, 7, 8, 9, 10, 11, 12] (by kernel_rfl) (by kernel_rfl) ?_; conv => whnf)
            | (refine fun (_ : _ ≤ maxLen) => ?_; conv => whnf)
            | (refine aGet_in rfl ?_; conv => whnf)
            | (refine And.intro (by omega) ?_; conv => whnf)
            | (refine load_same ?_; conv => whnf)
            | (refine And.intro (Nat.le_of_ble_eq_true rfl) ?_; conv => whnf)
            | (refine callG_t ?_; conv => whnf)
            | (refine append_same ?_; conv => whnf)
            | (refine get_ii_n (by omega) ?_; conv => whnf)
            | (refine l1TurnN_calln (by omega) (by assumption) ?_; conv => whnf)
            | (refine takeN_in ?_; conv => whnf)
            | (refine And.intro (pureL_ints _ _) ?_; conv => whnf)
            | (refine cut_all (by simp only [List.length_map]; omega) (scalL_ints _ _) ?_; conv => whnf)
            | (refine set_force ?_; conv => whnf)
            | (refine And.intro (by kernel_rfl) ?_; conv => whnf)
            | (refine aIf_dec (fun _ => ?_) (fun _ => ?_) <;> conv => whnf))
          all_goals (first | (exfalso; omega) | skip)
          exact retIS rfl (by decide) (by decide) (by decide) rfl rfl rfl rfl he rfl
end Go.Proofs.Ytmgggbgejdkamaa
