import Derived.Test.YtmgggbgejdkamaaM01x16
import Derived.Test.YtmgggbgejdkamaaM01x15
import Derived.Test.YtmgggbgejdkamaaV10
import Derived.Test.YtmgggbgejdkamaaM01x14
import Derived.Test.YtmgggbgejdkamaaM01x13
/- Chapter 4: how many numbers. -/
namespace Go.Proofs.Ytmgggbgejdkamaa
set_option maxRecDepth 20000
open Go.RowKit Go.Am
theorem cnt3 {zs : List Int} (h5 : zs.length ≤ 5) (hz : ∀ j, j < zs.length → 1 ≤ zs.getD j 0 ∧ zs.getD j 0 ≤ 3) : 1 ≤ cntTo zs zs.length ∧ cntTo zs zs.length ≤ 243 := by
  have key : ∀ k, k ≤ zs.length → 1 ≤ cntTo zs k ∧ cntTo zs k ≤ 3 ^ k := by
    intro k
    induction k with
    | zero => intro _; exact ⟨Int.le_refl _, Int.le_refl _⟩
    | succ k ih =>
      intro hk
      obtain ⟨h1, h2⟩ := ih (by omega)
      obtain ⟨h3, h4⟩ := hz k (by omega)
      have hp : (3 : Int) ^ k ≤ 81 := by
        have : k ≤ 4 := by omega
        rcases k with _ | _ | _ | _ | _ | k
        · decide
        · decide
        · decide
        · decide
        · decide
        · omega
      have a1 : 1 * 1 ≤ cntTo zs k * zs.getD k 0 := Int.mul_le_mul h1 h3 (by decide) (by omega)
      have a2 : cntTo zs k * zs.getD k 0 ≤ 3 ^ k * 3 := Int.mul_le_mul h2 h4 (by omega) (by omega)
      have a3 : cntTo zs (k + 1) = cntTo zs k * zs.getD k 0 := by
        show IntKind.i64.wrap _ = _
        exact IntWalk.i64_in _ (by omega)
      rw [a3, Int.pow_succ]
      exact ⟨by omega, a2⟩
  have h := key zs.length (Nat.le_refl _)
  have hp : (3 : Int) ^ zs.length ≤ 243 := by
    generalize zs.length = n at h5
    rcases n with _ | _ | _ | _ | _ | _ | n
    · decide
    · decide
    · decide
    · decide
    · decide
    · decide
    · omega
  omega
end Go.Proofs.Ytmgggbgejdkamaa

/- Chapter 5: mathematics: orders. -/
namespace Go.Proofs.Ytmgggbgejdkamaa
set_option maxRecDepth 20000
open Go.RowKit Go.Am
set_option linter.unusedSimpArgs false
/-- A pair that may be put together. -/
def okPr (S : Sm) (p : List Int) : Prop := p.length = 2 ∧ rng S (p.getD 0 0) (p.getD 1 0) ∧ (lfS S (p.getD 0 0) (p.getD 1 0)).length ≤ 3
instance (S : Sm) (p : List Int) : Decidable (okPr S p) := by unfold okPr; infer_instance
def stp (S : Sm) (p : List Int) : Sm := mrg S (p.getD 0 0) (p.getD 1 0)
def cst (S : Sm) (a b : Int) : Int := cntTo (own (pr S a b)).1 (own (pr S a b)).1.length
def orS (S : Sm) (ps : List (List Int)) : Nat → Sm
  | 0 => S
  | k + 1 => stp (orS S ps k) (ps.getD k [])
def orC (S : Sm) (ps : List (List Int)) : Nat → Int
  | 0 => 0
  | k + 1 => IntKind.i64.wrap (orC S ps k + cst (orS S ps k) ((ps.getD k []).getD 0 0) ((ps.getD k []).getD 1 0))
def orP (S : Sm) (ps : List (List Int)) (n : Nat) : Prop := ∀ k, k < n → okPr (orS S ps k) (ps.getD k [])
instance (S : Sm) (ps : List (List Int)) (n : Nat) : Decidable (orP S ps n) := by unfold orP; infer_instance
theorem orP_0 (S : Sm) (ps : List (List Int)) : orP S ps 0 := fun _ hk => absurd hk (Nat.not_lt_zero _)
theorem orP_s {S : Sm} {ps : List (List Int)} {n : Nat} (h : orP S ps n) (hp : okPr (orS S ps n) (ps.getD n [])) : orP S ps (n + 1) := fun k hk => by
  rcases Nat.lt_succ_iff_lt_or_eq.1 hk with h1 | rfl
  · exact h k h1
  · exact hp
theorem orP_le {S : Sm} {ps : List (List Int)} {m n : Nat} (hmn : m ≤ n) (h : orP S ps n) : orP S ps m := fun k hk => h k (by omega)
theorem orS_ok {S : Sm} {ps : List (List Int)} (hS : okS S) : ∀ n, orP S ps n → okS (orS S ps n)
  | 0, _ => hS
  | n + 1, h => by
    have ih := orS_ok hS n (orP_le (Nat.le_succ _) h)
    obtain ⟨-, h2, h3⟩ := h n (Nat.lt_succ_self _)
    exact mrg_ok ih h2 h3
theorem orS_fl {S : Sm} {ps : List (List Int)} : ∀ n, orP S ps n → (orS S ps n).2.1.length + n = S.2.1.length
  | 0, _ => rfl
  | n + 1, h => by
    have ih := orS_fl n (orP_le (Nat.le_succ _) h)
    obtain ⟨-, h2, -⟩ := h n (Nat.lt_succ_self _)
    have := mrg_fl h2
    show (mrg (orS S ps n) _ _).2.1.length + (n + 1) = _
    omega
theorem orP_short {S : Sm} {ps : List (List Int)} {n : Nat} (hS : okS S) (h : orP S ps n) : n + 1 ≤ S.2.1.length ∧ n ≤ 3 := by
  have h1 := orS_fl n h
  have h2 := (orS_ok hS n h).f1
  have h4 := hS.f4
  have e : (orS S ps n).2.1.length ≥ 1 := h2
  omega
/-- An order, and what it takes. -/
def odP (S : Sm) (ps : List (List Int)) : Prop := sumP S.1 S.2.1 S.2.2 ∧ orP S ps ps.length ∧ (orS S ps ps.length).2.1.length = 1
instance (S : Sm) (ps : List (List Int)) : Decidable (odP S ps) := by unfold odP; infer_instance
def odC (S : Sm) (ps : List (List Int)) : Int := if odP S ps then orC S ps ps.length else -1
theorem odC_t {S : Sm} {ps : List (List Int)} (h : odP S ps) : odC S ps = orC S ps ps.length := if_pos h
theorem odC_f {S : Sm} {ps : List (List Int)} (h : ¬ odP S ps) : odC S ps = -1 := if_neg h
theorem odP_len {S : Sm} {ps : List (List Int)} (h : odP S ps) : ps.length + 1 = S.2.1.length := by
  have := orS_fl _ h.2.1
  have := h.2.2
  omega
theorem odP_of {S : Sm} {ps : List (List Int)} (h1 : sumP S.1 S.2.1 S.2.2) (h2 : ps.length + 1 = S.2.1.length) (h3 : orP S ps ps.length) : odP S ps := ⟨h1, h3, by
  have := orS_fl _ h3
  omega⟩
theorem rng_own (S : Sm) (a b : Int) : rng (own S) a b ↔ rng S a b := by unfold rng; rw [own_fl]
theorem cst_own {S : Sm} (h : okS S) (a b : Int) : cst (own S) a b = cst S a b := by unfold cst; rw [own_pr h]
theorem cst_in {S : Sm} (h : okS S) {a b : Int} (hn : (lfS S a b).length ≤ 3) : 1 ≤ cst S a b ∧ cst S a b ≤ 243 := by
  have hs := own_sumP (pr_ok h hn)
  exact cnt3 hs.1 ((btw_iff _ _ _).1 hs.2.1)
theorem orC_in {S : Sm} {ps : List (List Int)} (hS : okS S) : ∀ n, orP S ps n → 0 ≤ orC S ps n ∧ orC S ps n ≤ 243 * n
  | 0, _ => ⟨Int.le_refl _, Int.le_refl _⟩
  | n + 1, h => by
    have hn := orP_le (Nat.le_succ _) h
    have ih := orC_in hS n hn
    have hs := (orP_short hS h).2
    obtain ⟨-, h2, h3⟩ := h n (Nat.lt_succ_self _)
    have hc := cst_in (orS_ok hS n hn) h3
    have e : orC S ps (n + 1) = orC S ps n + cst (orS S ps n) ((ps.getD n []).getD 0 0) ((ps.getD n []).getD 1 0) := IntWalk.i64_in _ (by omega)
    rw [e]
    constructor
    · omega
    · push_cast; omega
theorem odC_nn {S : Sm} {ps : List (List Int)} : 0 ≤ odC S ps ↔ odP S ps := by
  by_cases h : odP S ps
  · rw [odC_t h]
    exact ⟨fun _ => h, fun _ => (orC_in (okP_of h.1) _ h.2.1).1⟩
  · rw [odC_f h]
    exact ⟨fun h' => absurd h' (by decide), fun h' => absurd h' h⟩
end Go.Proofs.Ytmgggbgejdkamaa

/- Chapter 5: calls of MergeOf, and what it gives on the way. -/
namespace Go.Proofs.Ytmgggbgejdkamaa
set_option maxRecDepth 20000
open Go.RowKit Go.Am
theorem iMergeOf_callW {c d e : Nat} {zs o : List Int} {fs : List (List Int)} {a b : Int} {W B : Sm} {t : Bool} {env : List AV} {rows : List Row} {ctr low : Nat} {k : AV → St → Prop} (hW : mgW (zs, fs, o) a b = W) (hB : mgB (zs, fs, o) a b = B) (ht : decide (mgP (zs, fs, o) a b) = t) (h : k (.tup [.agg [.ref rows.length ctr 0 W.1.length, .ref (rows.length + 1) ctr 0 W.2.1.length, .ref (rows.length + 2) ctr 0 W.2.2.length], .agg [.ref (rows.length + 3) ctr 0 B.1.length, .ref (rows.length + 4) ctr 0 B.2.1.length, .ref (rows.length + 5) ctr 0 B.2.2.length], .bool t])
      ⟨env, rows ++ [⟨ctr, 3, 1, W.1.map (.int .i64)⟩, ⟨ctr, 22, 1, W.2.1.map (ownI 3)⟩, ⟨ctr, 3, 1, W.2.2.map (.int .i64)⟩, ⟨ctr, 3, 1, B.1.map (.int .i64)⟩, ⟨ctr, 22, 1, B.2.1.map (ownI 3)⟩, ⟨ctr, 3, 1, B.2.2.map (.int .i64)⟩], ctr + 1, low⟩) :
    CallB Try.prog 24 ⟨env, rows, ctr, low⟩ [.agg [.sl c zs.length (zs.map (.int .i64)), .sl d fs.length (fs.map (slI d)), .sl e o.length (o.map (.int .i64))], .int .i64 a, .int .i64 b] k := by
  subst hW; subst hB; subst ht
  exact callIS2B_in iMergeOf_sound ((c, zs, d, fs, e, o), a, b) trivial h
theorem mgP_pr0 {S : Sm} {p : List Int} (hs : sumP S.1 S.2.1 S.2.2) (h2 : p.length = 2) : mgP S (p.getD (Int.toNat 0) 0) (p.getD (Int.toNat 1) 0) ↔ okPr S p := ⟨fun h => ⟨h2, h.2.1, h.2.2⟩, fun h => ⟨hs, h.2.1, h.2.2⟩⟩
theorem mgP_pr {T : Sm} {p : List Int} (hT : okS T) (h2 : p.length = 2) : mgP (own T) (p.getD (Int.toNat 0) 0) (p.getD (Int.toNat 1) 0) ↔ okPr T p := (mgP_own hT _ _).trans ⟨fun h => ⟨h2, h.1, h.2⟩, fun h => ⟨h.2.1, h.2.2⟩⟩
theorem mgW_st0 {S : Sm} {ps : List (List Int)} {i : Nat} (e0 : orS S ps i = S) (hs : sumP S.1 S.2.1 S.2.2) (h : okPr (orS S ps i) (ps.getD i [])) : mgW S ((ps.getD i []).getD (Int.toNat 0) 0) ((ps.getD i []).getD (Int.toNat 1) 0) = own (orS S ps (i + 1)) := by
  rw [e0] at h
  show _ = own (stp (orS S ps i) _)
  rw [e0]
  exact mgW_t ((mgP_pr0 hs h.1).2 h)
theorem mgW_st {S : Sm} {ps : List (List Int)} {i : Nat} (hT : okS (orS S ps i)) (h : okPr (orS S ps i) (ps.getD i [])) : mgW (own (orS S ps i)) ((ps.getD i []).getD (Int.toNat 0) 0) ((ps.getD i []).getD (Int.toNat 1) 0) = own (orS S ps (i + 1)) :=
  (mgW_t ((mgP_pr hT h.1).2 h)).trans (own_mrg hT ⟨h.2.1.1, Int.le_trans h.2.1.1 (Int.le_of_lt h.2.1.2.1)⟩)
theorem scN_own {S : Sm} (h : okS S) : scN (own S).1 (own S).2.1 (own S).2.2 = cntTo (own S).1 (own S).1.length := if_pos (own_sumP h)
theorem scB_st0 {S : Sm} {ps : List (List Int)} {i : Nat} (e0 : orS S ps i = S) (hs : sumP S.1 S.2.1 S.2.2) (h : okPr (orS S ps i) (ps.getD i [])) : scN (mgB S ((ps.getD i []).getD (Int.toNat 0) 0) ((ps.getD i []).getD (Int.toNat 1) 0)).1 (mgB S ((ps.getD i []).getD (Int.toNat 0) 0) ((ps.getD i []).getD (Int.toNat 1) 0)).2.1 (mgB S ((ps.getD i []).getD (Int.toNat 0) 0) ((ps.getD i []).getD (Int.toNat 1) 0)).2.2 = cst (orS S ps i) ((ps.getD i []).getD 0 0) ((ps.getD i []).getD 1 0) := by
  rw [e0] at h ⊢
  rw [mgB_t ((mgP_pr0 hs h.1).2 h)]
  exact scN_own (pr_ok (okP_of hs) h.2.2)
theorem scB_st {S : Sm} {ps : List (List Int)} {i : Nat} (hT : okS (orS S ps i)) (h : okPr (orS S ps i) (ps.getD i [])) : scN (mgB (own (orS S ps i)) ((ps.getD i []).getD (Int.toNat 0) 0) ((ps.getD i []).getD (Int.toNat 1) 0)).1 (mgB (own (orS S ps i)) ((ps.getD i []).getD (Int.toNat 0) 0) ((ps.getD i []).getD (Int.toNat 1) 0)).2.1 (mgB (own (orS S ps i)) ((ps.getD i []).getD (Int.toNat 0) 0) ((ps.getD i []).getD (Int.toNat 1) 0)).2.2 = cst (orS S ps i) ((ps.getD i []).getD 0 0) ((ps.getD i []).getD 1 0) := by
  rw [mgB_t ((mgP_pr hT h.1).2 h), own_pr hT]
  exact scN_own (pr_ok hT h.2.2)
end Go.Proofs.Ytmgggbgejdkamaa

/- Chapter 5: all pairs, and the cheapest one. -/
namespace Go.Proofs.Ytmgggbgejdkamaa
set_option maxRecDepth 20000
open Go.RowKit Go.Am
set_option linter.unusedSimpArgs false
attribute [local irreducible] aPlan aGet aIf aLoop aCall RetB NextB CallB CallG aCut aSet aAppend
/-- The pairs of a, as many as k; the pairs of all ahead of a. -/
def prI (a : Nat) : Nat → List (List Int)
  | 0 => []
  | k + 1 => prI a k ++ [[(a : Int), ((a + 1 + k : Nat) : Int)]]
def prO (n : Nat) : Nat → List (List Int)
  | 0 => []
  | a + 1 => prO n a ++ prI a (n - (a + 1))
theorem prI_len (a : Nat) : ∀ k, (prI a k).length = k
  | 0 => rfl
  | k + 1 => by simp [prI, prI_len a k]
theorem prO_le {n : Nat} (hn : n ≤ 4) : ∀ a, a ≤ n → (prO n a).length ≤ 4 * a
  | 0, _ => Nat.le_refl _
  | a + 1, h => by
    have := prO_le hn a (by omega)
    simp only [prO, List.length_append, prI_len]
    omega
theorem len_pr {n a k : Nat} : (prO n a ++ prI a (k + 1)).length = (prO n a ++ prI a k).length + 1 := by simp [prI]; omega
theorem le_snocQ {t : TypeId} {ss ss' : List (List Int)} {xs : List Int} {u : AV} {p : Prop} (h : ss' = ss ++ [xs]) : (pureL (((ss.map (ownI t)) ++ [u]).set ss.length (ownI t xs)) = true ∧ ss'.map (ownI t) = ((ss.map (ownI t)) ++ [u]).set ss.length (ownI t xs)) ∨ p := by
  subst h
  refine le_cells ?_ (pureL_oi _ _)
  rw [List.set_append_right _ _ (by simp)]
  simp
set_option maxHeartbeats 8000000 in
theorem pairsOf_sound : Sound Try.prog 85 (fnR (ι := Nat) 22 1 (fun n => [.int .i64 n]) (fun n => n ≤ 4) (fun n => (prO n n).length) (fun n => (prO n n).map (ownI 3))) := by
  refine sound_of Try.func85 rfl (enters_of Try.func85 (by kernel_rfl) (by kernel_rfl)) ?_
  intro (n : Nat) (hpre : n ≤ 4)
  have hmax : maxLen = 9223372036854775807 := rfl
  conv => whnf
  repeat' (first
    | (refine append_same ?_; conv => whnf)
    | (refine And.intro (And.intro (by kernel_rfl) (And.intro rfl (Nat.le_of_ble_eq_true rfl))) ?_; conv => whnf))
  refine loop_ut (ι := Nat) [true, false, false, true, false, false, false, true, true, false, false, false, false, false, false, false, false, false, false, false, false, false, false, false, false, false] (fun a => [(3, .ref 1 2 0 (prO n a).length), (8, .int .i64 a)]) (fun a => [(1, (prO n a).map (ownI 3))]) (fun a => a ≤ n) (fun a => n - a) (0) (Nat.zero_le _) ?_ ?_
  · conv => whnf
    refine St.le.to ?_
    conv => whnf
    repeat' (first
      | exact trivial
      | exact rfl
      | exact Or.inl (And.intro rfl rfl)
      | refine And.intro ?_ ?_
      | exact Nat.le_of_ble_eq_true rfl)
  · intro a ha
    have ha : a ≤ n := ha
    have hla := prO_le hpre a ha
    by_cases hlt : a < n
    · have hw : IntKind.i64.wrap ((a : Int) + 1) = a + 1 := IntWalk.i64_in _ (by omega)
      conv => whnf
      repeat' (first
        | (refine append_same ?_; conv => whnf)
        | (refine aIf_dec (fun _ => ?_) (fun _ => ?_) <;> conv => whnf))
      all_goals (first | (exfalso; omega) | contradiction | skip)
      refine loop_ut (ι := Nat) [true, false, false, true, true, true, false, true, true, false, false, false, false, false, false, false, false, false, false, false, false, false, false, false, false, false] (fun k => [(3, .ref 1 2 0 (prO n a ++ prI a k).length), (5, .int .i64 ((a + 1 + k : Nat) : Int))]) (fun k => [(1, (prO n a ++ prI a k).map (ownI 3))]) (fun k => a + 1 + k ≤ n) (fun k => n - k) (0) (by exact (by omega : a + 1 + 0 ≤ n)) ?_ ?_
      · conv => whnf
        refine St.le.to ?_
        conv => whnf
        repeat' (first | exact le_ints (by simp [prI]) | exact le_cells (by simp [prI]) (pureL_oi _ _) | refine And.intro ?_ ?_)
        repeat' (first
          | exact trivial
          | exact rfl
          | exact Or.inl (And.intro rfl rfl)
          | exact Nat.le_of_ble_eq_true rfl
          | exact int_eq (by assumption)
          | exact List.length_append)
      · intro k hk
        have hk : a + 1 + k ≤ n := hk
        have hlk : (prO n a ++ prI a k).length = (prO n a).length + k := by rw [List.length_append, prI_len]
        by_cases hlt2 : a + 1 + k < n
        · have hw2 : IntKind.i64.wrap (((a + 1 + k : Nat) : Int) + 1) = ((a + 1 + (k + 1) : Nat) : Int) := IntWalk.i64_in _ (by omega)
          conv => whnf
          repeat' (first
            | (refine append_same ?_; conv => whnf)
            | (refine And.intro (And.intro (by kernel_rfl) (And.intro rfl (Nat.le_of_ble_eq_true rfl))) ?_; conv => whnf)
            | (refine aIf_dec (fun _ => ?_) (fun _ => ?_) <;> conv => whnf))
          all_goals (first | (exfalso; omega) | contradiction | skip)
          refine append_ll rfl (by rw [List.length_map]) rfl rfl (by omega) (Nat.zero_le _) ?_
          conv => whnf
          repeat' (first
            | (refine append_same ?_; conv => whnf))
          refine next_ut (k + 1) (show n - (k + 1) < n - k by omega) (by exact (by omega : a + 1 + (k + 1) ≤ n)) ?_
          conv => whnf
          refine to_close 1 (prO n a ++ prI a k).length 2 _ _ 1 3 _ _ rfl ((List.getElem?_append_right (by rw [List.length_map]; omega)).trans (by rw [List.length_map, Nat.sub_self]; rfl)) rfl (by decide) (Nat.zero_le _) (by decide) (by simp) ?_
          refine St.le.to ?_
          conv => whnf
          repeat' (first | exact le_snocQ (xs := [(a : Int), ((a + 1 + k : Nat) : Int)]) (by simp [prI]) | exact len_pr | refine And.intro ?_ ?_)
          repeat' (first
            | exact trivial
            | exact rfl
            | exact Or.inl (And.intro rfl rfl)
            | exact Nat.le_of_ble_eq_true rfl
            | exact int_eq (by assumption))
        · conv => whnf
          repeat' (first
            | (refine And.intro (by omega) ?_; conv => whnf)
            | (refine append_same ?_; conv => whnf)
            | (refine aIf_dec (fun _ => ?_) (fun _ => ?_) <;> conv => whnf))
          all_goals (first | (exfalso; omega) | contradiction | skip)
          have hk2 : k = n - (a + 1) := by omega
          subst hk2
          refine next_ut (a + 1) (show n - (a + 1) < n - a by omega) (by exact (by omega : a + 1 ≤ n)) ?_
          conv => whnf
          refine St.le.to ?_
          conv => whnf
          repeat' (first
            | exact trivial
            | exact rfl
            | exact Or.inl (And.intro rfl rfl)
            | exact Or.inl (And.intro (pureL_oi _ _) rfl)
            | refine And.intro ?_ ?_
            | exact Nat.le_of_ble_eq_true rfl
            | exact int_eq (by assumption))
    · have he : a = n := by omega
      subst he
      conv => whnf
      repeat' (first
        | (refine append_same ?_; conv => whnf)
        | (refine aIf_dec (fun _ => ?_) (fun _ => ?_) <;> conv => whnf))
      all_goals (first | (exfalso; omega) | contradiction | skip)
      exact retR rfl (protL_oi _ _) rfl rfl
end Go.Proofs.Ytmgggbgejdkamaa

/- Chapter 5: the cheapest pair: mathematics. -/
namespace Go.Proofs.Ytmgggbgejdkamaa
set_option maxRecDepth 20000
open Go.RowKit Go.Am
set_option linter.unusedSimpArgs false
def bc (S : Sm) (p : List Int) : Int := cst S (p.getD 0 0) (p.getD 1 0)
def nrw (S : Sm) (p : List Int) : Prop := (lfS S (p.getD 0 0) (p.getD 1 0)).length ≤ 3
instance (S : Sm) (p : List Int) : Decidable (nrw S p) := by unfold nrw; infer_instance
/-- One more pair is looked at. -/
def scS (S : Sm) (x : List Int × Int) (p : List Int) : List Int × Int := if nrw S p ∧ (x.1 = [] ∨ bc S p < x.2) then (p, bc S p) else x
def scL (S : Sm) (L : List (List Int)) : List Int × Int := L.foldl (scS S) ([], 0)
theorem scL_snoc (S : Sm) (L : List (List Int)) (p : List Int) : scL S (L ++ [p]) = scS S (scL S L) p := by simp [scL]
theorem scL_take {S : Sm} {L : List (List Int)} {k : Nat} (h : k < L.length) : scL S (L.take (k + 1)) = scS S (scL S (L.take k)) (L.getD k []) := by
  rw [List.take_add_one, getD_eq (d := ([] : List Int)) h]
  exact scL_snoc _ _ _
theorem scS_own {S : Sm} (h : okS S) (x : List Int × Int) (p : List Int) : scS (own S) x p = scS S x p := by
  have e1 : nrw (own S) p ↔ nrw S p := by unfold nrw; rw [lf_own_len h]
  have e2 : bc (own S) p = bc S p := cst_own h _ _
  unfold scS
  rw [e2]
  by_cases hc : nrw S p ∧ (x.1 = [] ∨ bc S p < x.2)
  · rw [if_pos hc, if_pos ⟨e1.2 hc.1, hc.2⟩]
  · rw [if_neg hc, if_neg fun h' => hc ⟨e1.1 h'.1, h'.2⟩]
theorem scL_own {S : Sm} (h : okS S) (L : List (List Int)) : scL (own S) L = scL S L := by
  unfold scL
  have e : scS (own S) = scS S := by funext x p; exact scS_own h x p
  rw [e]
theorem scS_t {S : Sm} {x : List Int × Int} {p : List Int} (h : nrw S p) (h2 : x.1 = [] ∨ bc S p < x.2) : scS S x p = (p, bc S p) := if_pos ⟨h, h2⟩
theorem scS_f {S : Sm} {x : List Int × Int} {p : List Int} (h : ¬ nrw S p) : scS S x p = x := if_neg fun h' => h h'.1
theorem scS_f2 {S : Sm} {x : List Int × Int} {p : List Int} (h : ¬ (x.1 = [] ∨ bc S p < x.2)) : scS S x p = x := if_neg fun h' => h h'.2
theorem scF_in {S : Sm} {Q : List Int → Prop} : ∀ (L : List (List Int)) (x : List Int × Int), (∀ p ∈ L, Q p) → ((x.1 = [] ∧ x.2 = 0) ∨ (Q x.1 ∧ nrw S x.1 ∧ x.2 = bc S x.1)) → (((L.foldl (scS S) x).1 = [] ∧ (L.foldl (scS S) x).2 = 0) ∨ (Q (L.foldl (scS S) x).1 ∧ nrw S (L.foldl (scS S) x).1 ∧ (L.foldl (scS S) x).2 = bc S (L.foldl (scS S) x).1))
  | [], _, _, hx => hx
  | p :: L, x, h, hx => by
    refine scF_in L (scS S x p) (fun q hq => h q (List.mem_cons_of_mem _ hq)) ?_
    by_cases hc : nrw S p ∧ (x.1 = [] ∨ bc S p < x.2)
    · rw [scS_t hc.1 hc.2]
      exact .inr ⟨h p List.mem_cons_self, hc.1, rfl⟩
    · have e : scS S x p = x := if_neg hc
      rw [e]; exact hx
/-- What has been found is one of those looked at, with what it takes. -/
theorem scL_in {S : Sm} (L : List (List Int)) : ((scL S L).1 = [] ∧ (scL S L).2 = 0) ∨ ((scL S L).1 ∈ L ∧ nrw S (scL S L).1 ∧ (scL S L).2 = bc S (scL S L).1) := scF_in (Q := (· ∈ L)) L ([], 0) (fun _ h => h) (.inl ⟨rfl, rfl⟩)
theorem scL_nn {S : Sm} (hS : okS S) (L : List (List Int)) : 0 ≤ (scL S L).2 := by
  rcases scL_in (S := S) L with ⟨-, h⟩ | ⟨-, h2, h3⟩
  · omega
  · rw [h3]
    have := (cst_in hS h2).1
    unfold bc
    omega
def lsI (x : List Int × Int) : Int := if x.1 = [] then -1 else x.2
theorem lsI_0 {x : List Int × Int} (h : x.1 = []) : lsI x = -1 := if_pos h
theorem lsI_1 {x : List Int × Int} (h : ¬ x.1 = []) : lsI x = x.2 := if_neg h
theorem lsI_b {S : Sm} (hS : okS S) (L : List (List Int)) : decide (0 ≤ lsI (scL S L)) = decide ((scL S L).1 ≠ []) := by
  have h0 := scL_nn hS L
  by_cases h : (scL S L).1 = []
  · rw [lsI_0 h, decide_eq_false (p := (scL S L).1 ≠ []) fun h' => h' h]; rfl
  · rw [lsI_1 h, decide_eq_true (p := (scL S L).1 ≠ []) h]; exact decide_eq_true h0
/-- Pairs of so many. -/
def isP (n : Nat) (p : List Int) : Prop := p.length = 2 ∧ 0 ≤ p.getD 0 0 ∧ p.getD 0 0 < p.getD 1 0 ∧ p.getD 1 0 < n
theorem prI_is {n a : Nat} : ∀ k, a + 1 + k ≤ n → ∀ p ∈ prI a k, isP n p
  | 0, _, p, h => nomatch h
  | k + 1, hk, p, h => by
    rcases List.mem_append.1 h with h | h
    · exact prI_is k (by omega) p h
    · obtain rfl := List.mem_singleton.1 h
      exact ⟨rfl, by show (0 : Int) ≤ (a : Int); omega, by show (a : Int) < ((a + 1 + k : Nat) : Int); omega, by show ((a + 1 + k : Nat) : Int) < n; omega⟩
theorem prO_is {n : Nat} : ∀ a, a ≤ n → ∀ p ∈ prO n a, isP n p
  | 0, _, p, h => nomatch h
  | a + 1, ha, p, h => by
    rcases List.mem_append.1 h with h | h
    · exact prO_is a (by omega) p h
    · exact prI_is _ (by omega) p h
theorem prO_at {n k : Nat} (hk : k < (prO n n).length) : isP n ((prO n n).getD k []) := prO_is n (Nat.le_refl _) _ (mem_getD (d := ([] : List Int)) hk)
/-- The best pair of an index sum. -/
def bst (S : Sm) : List Int := (scL S (prO S.2.1.length S.2.1.length)).1
theorem bst_own {S : Sm} (h : okS S) : bst (own S) = bst S := by unfold bst; rw [scL_own h, own_fl]
theorem bst_ok {S : Sm} (hb : bst S ≠ []) : okPr S (bst S) := by
  rcases scL_in (S := S) (prO S.2.1.length S.2.1.length) with ⟨h1, -⟩ | ⟨h1, h2, -⟩
  · exact absurd h1 hb
  · have := prO_is S.2.1.length (Nat.le_refl _) _ h1
    exact ⟨this.1, ⟨this.2.1, this.2.2.1, this.2.2.2⟩, h2⟩
/-- A row of lists whose first ones are forgotten. -/
def unk (t : TypeId) (P : List (List Int)) (k : Nat) : List AV := List.replicate k .un ++ (P.drop k).map (ownI t)
theorem unk_0 (t : TypeId) (P : List (List Int)) : unk t P 0 = P.map (ownI t) := rfl
theorem unk_len {t : TypeId} {P : List (List Int)} {k : Nat} (h : k ≤ P.length) : (unk t P k).length = P.length := by
  unfold unk; simp; omega
theorem unk_at {t : TypeId} {P : List (List Int)} {k : Nat} (h : k < P.length) : unk t P k = List.replicate k .un ++ ownI t (P.getD k []) :: (P.drop (k + 1)).map (ownI t) := by
  unfold unk
  have e : P.drop k = P.getD k [] :: P.drop (k + 1) := by
    rw [List.drop_eq_getElem_cons h]
    simp [List.getD, List.getElem?_eq_getElem h]
  rw [e]; rfl
theorem subL_pure (s s' : St) : ∀ cs : List AV, (∀ c ∈ cs, ∃ t z n xs, c = AV.own t z n xs ∧ c.pure = true) → subL s s' cs cs
  | [], _ => trivial
  | c :: cs, h => by
    refine ⟨?_, subL_pure s s' cs fun x hx => h x (List.mem_cons_of_mem _ hx)⟩
    obtain ⟨t, z, n, xs, rfl, hp⟩ := h c List.mem_cons_self
    exact ⟨rfl, hp⟩
theorem subL_un (s s' : St) (X Y : List AV) (h : subL s s' X Y) : ∀ k, subL s s' (List.replicate k .un ++ X) (List.replicate k .un ++ Y)
  | 0 => h
  | k + 1 => ⟨rfl, subL_un s s' X Y h k⟩
theorem le_unkR {t : TypeId} {P : List (List Int)} {k : Nat} {s s' : St} {p : Prop} : p ∨ subL s s' (unk t P k) (unk t P k) := .inr (subL_un _ _ _ _ (subL_pure _ _ _ fun c hc => by
  obtain ⟨xs, -, rfl⟩ := List.mem_map.1 hc
  exact ⟨_, _, _, _, rfl, ownI_pure _ _⟩) k)
theorem le_unk {t : TypeId} {P : List (List Int)} {k j : Nat} {s s' : St} {u : AV} {p : Prop} (hj : j = k) (h : k < P.length) : p ∨ subL s s' ((unk t P k).set j u) (unk t P (k + 1)) := by
  rw [hj]
  refine .inr ?_
  rw [unk_at h, List.set_append_right _ _ (by simp)]
  have e : unk t P (k + 1) = List.replicate k .un ++ .un :: (P.drop (k + 1)).map (ownI t) := by
    unfold unk
    rw [List.replicate_succ', List.append_assoc]; rfl
  rw [e]
  refine subL_un _ _ _ _ ?_ k
  simp only [List.length_replicate, Nat.sub_self, List.set_cons_zero]
  refine ⟨by cases u <;> rfl, subL_pure _ _ _ fun c hc => ?_⟩
  obtain ⟨xs, -, rfl⟩ := List.mem_map.1 hc
  exact ⟨_, _, _, _, rfl, ownI_pure _ _⟩
theorem get_unk {t : TypeId} {P : List (List Int)} {k : Nat} {K : AV → Prop} (h : k < P.length) (hK : K (ownI t (P.getD k []))) : aGet ((unk t P k).drop (0 + (k : Int).toNat * 1)) 0 K := by
  rw [unk_at h, Int.toNat_natCast, Nat.mul_one, Nat.zero_add, List.drop_left' (by simp)]
  exact aGet_in rfl hK
theorem pairsOf_call {n : Nat} {i : Int} {env : List AV} {rows : List Row} {ctr low : Nat} {k : AV → St → Prop} (hi : i = n) (hpre : n ≤ 4) (h : k (.ref rows.length ctr 0 (prO n n).length) ⟨env, rows ++ [⟨ctr, 22, 1, unk 3 (prO n n) 0⟩], ctr + 1, low⟩) :
    CallB Try.prog 85 ⟨env, rows, ctr, low⟩ [.int .i64 i] k := by
  subst hi
  exact callR_in pairsOf_sound n hpre (protL_oi _ _) h
theorem pairsOf_callP {n : Nat} {P : List (List Int)} {i : Int} {env : List AV} {rows : List Row} {ctr low : Nat} {k : AV → St → Prop} (hi : i = n) (hpre : n ≤ 4) (hP : prO n n = P) (h : k (.ref rows.length ctr 0 P.length) ⟨env, rows ++ [⟨ctr, 22, 1, unk 3 P 0⟩], ctr + 1, low⟩) :
    CallB Try.prog 85 ⟨env, rows, ctr, low⟩ [.int .i64 i] k := by
  subst hP
  exact pairsOf_call hi hpre h
end Go.Proofs.Ytmgggbgejdkamaa

/- Lists of lists of lists. -/
namespace Go.Am
open Go.RowKit
abbrev L3 := List (List (List Int))
def sl2 (c : Nat) (o : List (List Int)) : AV := .sl c o.length (o.map (slI c))
def own2 (t tt : TypeId) (o : List (List Int)) : AV := .own tt 1 o.length (o.map (ownI t))
theorem sl2_pure (c : Nat) (o : List (List Int)) : (sl2 c o).pure = true := pureL_ii _ _
theorem own2_pure (t tt : TypeId) (o : List (List Int)) : (own2 t tt o).pure = true := pureL_oi _ _
theorem own2_prot (t tt : TypeId) (o : List (List Int)) : (own2 t tt o).prot = true := protL_oi _ _
theorem pureL_l3 (c : Nat) (L : L3) : pureL (L.map (sl2 c)) = true := pureL_map (sl2_pure c) _
theorem pureL_o3 (t tt : TypeId) (L : L3) : pureL (L.map (own2 t tt)) = true := pureL_map (own2_pure t tt) _
theorem protL_o3 (t tt : TypeId) (L : L3) : protL (L.map (own2 t tt)) = true := protL_map (own2_prot t tt) _
theorem tr_own2 (f : Nat) (t tt : TypeId) (o : List (List Int)) : AV.tr (f + 3) (own2 t tt o) = some (sl2 0 o) := by
  show (((o.map (ownI t))).mapM (AV.tr (f + 2))).map (AV.sl 0 o.length) = _
  rw [trL_map (tr_ownI f t)]; rfl
theorem cut_l3 {f : Nat} {t tt : TypeId} {L : L3} {m : Nat} {k : List AV → Prop} (hm : m = L.length) (hk : k (L.map (sl2 0))) : aCut (f + 3) (L.map (own2 t tt)) 0 (m * 1) k := cut_tr (by simp [hm]) (trL_map (tr_own2 f t tt) L) hk
theorem get_l3_n {c k : Nat} {L : L3} {K : AV → Prop} (h : k < L.length) (hK : K (sl2 c (L.getD k []))) : aGet ((L.map (sl2 c)).drop ((k : Int).toNat * 1)) 0 K := get_map [] (by simp) h hK
end Go.Am
namespace Go.Proofs.Ytmgggbgejdkamaa
set_option maxRecDepth 20000
open Go.RowKit Go.Am
set_option linter.unusedSimpArgs false
attribute [local irreducible] aPlan aGet aIf aLoop aCall RetB NextB CallB CallG aCut aSet aAppend
theorem l3_ext {L M : L3} (hl : L.length = M.length) (h : ∀ j, j < L.length → L.getD j [] = M.getD j []) : L = M := by
  refine List.ext_getElem hl fun j h1 h2 => ?_
  have := h j h1
  simpa [List.getD, List.getElem?_eq_getElem h1, List.getElem?_eq_getElem h2] using this
theorem eqIntSSS_sound : Sound Try.prog 41 (fnS (ι := Nat × L3 × Nat × L3) (fun | (c, L, d, M) => [.sl c L.length (L.map (sl2 c)), .sl d M.length (M.map (sl2 d))]) (fun _ => True) (fun | (_, L, _, M) => .bool (decide (L = M)))) := by
  refine sound_of Try.func41 rfl (enters_of Try.func41 (by kernel_rfl) (by kernel_rfl)) ?_
  rintro ⟨c, L, d, M⟩ -
  have hmax : maxLen = 9223372036854775807 := rfl
  by_cases hl : L.length = M.length
  · conv => whnf
    repeat' (first
      | (refine plan_in (id := 6) [0, 1, 2, 3, 4, 5, 6, 7, 8, 9] (by kernel_rfl) (by kernel_rfl) ?_; conv => whnf)
      | (refine fun (_ : _ ≤ maxLen) => ?_; conv => whnf)
      | (refine append_same ?_; conv => whnf)
      | refine aIf_not ?_
      | (refine aIf_dec (fun _ => ?_) (fun _ => ?_) <;> conv => whnf))
    all_goals (first | (exfalso; omega) | contradiction | skip)
    refine loop_u (ι := Nat) [true, true, false, false, false, true, false, false, false, false, false, false, false, false, false, false, false, false, false, false, false, false, false, false, false, false, false] (fun k => [(5, .int .i64 k)]) (fun _ => []) (fun k => k ≤ L.length ∧ ∀ j, j < k → L.getD j [] = M.getD j []) (fun k => L.length - k) (0) ⟨Nat.zero_le _, fun j hj => absurd hj (Nat.not_lt_zero _)⟩ ?_ ?_
    · conv => whnf
      repeat' (first
        | exact trivial
        | exact rfl
        | exact pureL_l3 _ _
        | refine And.intro ?_ ?_
        | exact Nat.le_of_ble_eq_true rfl)
    · rintro k ⟨hk, hall⟩
      have hk : k ≤ L.length := hk
      by_cases hlt : k < L.length
      · by_cases he : L.getD k [] = M.getD k []
        · have hed : decide (L.getD k [] = M.getD k []) = true := decide_eq_true he
          conv => whnf
          repeat' (first
            | (refine plan_in (id := 6) [0, 1, 2, 3, 4, 5, 6, 7, 8, 9] (by kernel_rfl) (by kernel_rfl) ?_; conv => whnf)
            | (refine fun (_ : _ ≤ maxLen) => ?_; conv => whnf)
            | (refine And.intro (by omega) ?_; conv => whnf)
            | (refine append_same ?_; conv => whnf)
            | (refine And.intro (pureL_ii _ _) ?_; conv => whnf)
            | (refine eqIntSS_call trivial ?_; conv => whnf)
            | (refine get_l3_n (by omega) ?_; conv => whnf)
            | (refine aIf_tt (by assumption) ?_; conv => whnf)
            | refine aIf_not ?_
            | (refine aIf_dec (fun _ => ?_) (fun _ => ?_) <;> conv => whnf))
          all_goals (first | (exfalso; omega) | contradiction | skip)
          refine next_u (k + 1) (show L.length - (k + 1) < L.length - k by omega) ⟨(by omega : k + 1 ≤ L.length), fun j hj => (Nat.lt_succ_iff_lt_or_eq.1 hj).elim (hall j) (fun e => e ▸ he)⟩ ?_
          conv => whnf
          repeat' (first
            | exact trivial
            | exact rfl
            | exact pureL_l3 _ _
            | refine And.intro ?_ ?_
            | exact Nat.le_of_ble_eq_true rfl
            | exact int_eq (by rw [IntWalk.i64_in _ (by omega)] <;> omega))
        · have hed : decide (L.getD k [] = M.getD k []) = false := decide_eq_false he
          conv => whnf
          repeat' (first
            | (refine plan_in (id := 6) [0, 1, 2, 3, 4, 5, 6, 7, 8, 9] (by kernel_rfl) (by kernel_rfl) ?_; conv => whnf)
            | (refine fun (_ : _ ≤ maxLen) => ?_; conv => whnf)
            | (refine And.intro (by omega) ?_; conv => whnf)
            | (refine append_same ?_; conv => whnf)
            | (refine And.intro (pureL_ii _ _) ?_; conv => whnf)
            | (refine eqIntSS_call trivial ?_; conv => whnf)
            | (refine get_l3_n (by omega) ?_; conv => whnf)
            | (refine aIf_ff (by assumption) ?_; conv => whnf)
            | refine aIf_not ?_
            | (refine aIf_dec (fun _ => ?_) (fun _ => ?_) <;> conv => whnf))
          all_goals (first | (exfalso; omega) | contradiction | skip)
          exact retS rfl (congrArg AV.bool (decide_eq_false fun h => he (by rw [h])).symm)
      · have hk2 : k = L.length := by omega
        conv => whnf
        repeat' (first
          | (refine plan_in (id := 6) [0, 1, 2, 3, 4, 5, 6, 7, 8, 9] (by kernel_rfl) (by kernel_rfl) ?_; conv => whnf)
          | (refine fun (_ : _ ≤ maxLen) => ?_; conv => whnf)
          | (refine And.intro (by omega) ?_; conv => whnf)
          | (refine append_same ?_; conv => whnf)
          | (refine eqIntSS_call trivial ?_; conv => whnf)
          | (refine get_l3_n (by omega) ?_; conv => whnf)
          | refine aIf_not ?_
          | (refine aIf_dec (fun _ => ?_) (fun _ => ?_) <;> conv => whnf))
        all_goals (first | (exfalso; omega) | contradiction | skip)
        exact retS rfl (congrArg AV.bool (decide_eq_true (l3_ext hl fun j hj => hall j (by omega))).symm)
  · conv => whnf
    repeat' (first
      | (refine plan_in (id := 6) [0, 1, 2, 3, 4, 5, 6, 7, 8, 9] (by kernel_rfl) (by kernel_rfl) ?_; conv => whnf)
      | (refine fun (_ : _ ≤ maxLen) => ?_; conv => whnf)
      | (refine append_same ?_; conv => whnf)
      | refine aIf_not ?_
      | (refine aIf_dec (fun _ => ?_) (fun _ => ?_) <;> conv => whnf))
    all_goals (first | (exfalso; omega) | contradiction | skip)
    exact retS rfl (congrArg AV.bool (decide_eq_false fun h => hl (by rw [h])).symm)
end Go.Proofs.Ytmgggbgejdkamaa

/- Chapter 3: lists of lists that hold marks. -/
namespace Go.Proofs.Ytmgggbgejdkamaa
set_option maxRecDepth 20000
open Go.RowKit Go.Am
set_option linter.unusedSimpArgs false
attribute [local irreducible] aPlan aGet aIf aLoop aCall RetB NextB CallB CallG aCut aSet aAppend
theorem heldIntSS_sound : Sound Try.prog 46 (fnS (ι := Nat × List (List Int) × Int) (fun | (c, xss, m) => [.sl c xss.length ((marksII m xss).map (slI c)), .int .i64 m]) (fun | (_, xss, m) => xss.length ≤ 1048576 ∧ tot xss ≤ 1048576 ∧ 0 ≤ m ∧ m ≤ 100000000000) (fun | (_, xss, m) => .int .i64 (m + tot xss))) := by
  refine sound_of Try.func46 rfl (enters_of Try.func46 (by kernel_rfl) (by kernel_rfl)) ?_
  rintro ⟨c, xss, m⟩ hpre
  have hpre : xss.length ≤ 1048576 ∧ tot xss ≤ 1048576 ∧ 0 ≤ m ∧ m ≤ 100000000000 := hpre
  have hmax : maxLen = 9223372036854775807 := rfl
  have hML := marksII_length m xss
  conv => whnf
  repeat' (first
    | (refine append_same ?_; conv => whnf))
  refine loop_u (ι := Nat) [true, true, false, false, false, true, false, false, false, false, false, false, false, false, false, false, false, false, false, false, false] (fun k => [(1, .int .i64 (m + tot (xss.take k))), (5, .int .i64 k)]) (fun _ => []) (fun k => k ≤ xss.length) (fun k => xss.length - k) (0) (Nat.zero_le _) ?_ ?_
  · conv => whnf
    repeat' (first
      | exact trivial
      | exact rfl
      | exact pureL_ii _ _
      | refine And.intro ?_ ?_
      | exact Nat.le_of_ble_eq_true rfl
      | exact int_eq (Int.add_zero _).symm)
    all_goals exact int_eq (by simp [tot])
  · rintro k hk
    have hk : k ≤ xss.length := hk
    by_cases hlt : k < xss.length
    · have hg := marksII_getD m xss k hlt
      have hs := tot_succ hlt
      have hl := len_le_tot hlt
      have ht : tot (xss.take (k + 1)) ≤ tot xss := sum_take_le List.length xss (k + 1)
      have hgl : ((marksII m xss).getD k []).length = (xss.getD k []).length := by rw [hg, marks_length]
      conv => whnf
      repeat' (first
        | (refine fun (_ : _ ≤ maxLen) => ?_; conv => whnf)
        | (refine And.intro (by omega) ?_; conv => whnf)
        | (refine callG_t ?_; conv => whnf)
        | (refine append_same ?_; conv => whnf)
        | (refine get_ii_n (by omega) ?_; conv => whnf)
        | (refine And.intro (pureL_ints _ _) ?_; conv => whnf)
        | (refine aIf_dec (fun _ => ?_) (fun _ => ?_) <;> conv => whnf))
      all_goals (first | (exfalso; omega) | skip)
      refine held_call (m := m + tot (xss.take k)) (by omega) ?_
      rw [if_pos (by rw [hgl]; exact hg), hgl]
      conv => whnf
      repeat' (first
        | (refine append_same ?_; conv => whnf)
        | (refine aIf_dec (fun _ => ?_) (fun _ => ?_) <;> conv => whnf))
      all_goals (first | (exfalso; omega) | skip)
      refine next_u (k + 1) (show xss.length - (k + 1) < xss.length - k by omega) (by exact (by omega : k + 1 ≤ xss.length)) ?_
      conv => whnf
      repeat' (first
        | exact trivial
        | exact rfl
        | exact pureL_ii _ _
        | refine And.intro ?_ ?_
        | exact Nat.le_of_ble_eq_true rfl
        | exact int_eq (by omega)
        | exact int_eq (by rw [IntWalk.i64_in _ (by omega)] <;> omega))
      all_goals (first | exact int_eq (by omega) | skip)
    · have e := tot_all (show k = xss.length by omega)
      conv => whnf
      repeat' (first
        | (refine fun (_ : _ ≤ maxLen) => ?_; conv => whnf)
        | (refine And.intro (by omega) ?_; conv => whnf)
        | (refine callG_t ?_; conv => whnf)
        | (refine append_same ?_; conv => whnf)
        | (refine get_ii_n (by omega) ?_; conv => whnf)
        | (refine aIf_dec (fun _ => ?_) (fun _ => ?_) <;> conv => whnf))
      all_goals (first | (exfalso; omega) | skip)
      exact retS rfl (int_eq (by rw [e]))
theorem cut_marksII {f : Nat} {t : TypeId} {xss : List (List Int)} {m : Int} {n : Nat} {k : List AV → Prop} (hn : n = xss.length) (hk : k ((marksII m xss).map (slI 0))) : aCut (f + 2) ((marksII m xss).map (ownI t)) 0 (n * 1) k := cut_ii (by rw [hn, marksII_length]) hk
theorem heldIntSS_call {c n : Nat} {xss : List (List Int)} {m : Int} {env : List AV} {rows : List Row} {ctr low : Nat} {k : AV → St → Prop} (hn : n = xss.length) (hpre : xss.length ≤ 1048576 ∧ tot xss ≤ 1048576 ∧ 0 ≤ m ∧ m ≤ 100000000000) (h : k (.int .i64 (m + tot xss)) ⟨env, rows, ctr + 1, low⟩) :
    CallB Try.prog 46 ⟨env, rows, ctr, low⟩ [.sl c n ((marksII m xss).map (slI c)), .int .i64 m] k := by
  subst hn
  exact callS_in heldIntSS_sound (c, xss, m) hpre rfl h
end Go.Proofs.Ytmgggbgejdkamaa

/- Lists of lists of lists: marks. -/
namespace Go.Proofs.Ytmgggbgejdkamaa
set_option maxRecDepth 20000
open Go.RowKit Go.Am
set_option linter.unusedSimpArgs false
attribute [local irreducible] aPlan aGet aIf aLoop aCall RetB NextB CallB CallG aCut aSet aAppend
def tot3 (L : L3) : Nat := (L.map tot).sum
theorem tot3_succ {L : L3} {k : Nat} (h : k < L.length) : tot3 (L.take (k + 1)) = tot3 (L.take k) + tot (L.getD k []) := sum_take_succ _ [] h
theorem tot3_all {L : L3} {k : Nat} (h : k = L.length) : tot3 (L.take k) = tot3 L := by rw [h, List.take_length]
def marks3 (m : Int) : L3 → L3
  | [] => []
  | o :: L => marksII m o :: marks3 (m + tot o) L
theorem marks3_length : ∀ (m : Int) (L : L3), (marks3 m L).length = L.length
  | _, [] => rfl
  | m, o :: L => by simp [marks3, marks3_length]
theorem marks3_getD : ∀ (m : Int) (L : L3) (k : Nat), k < L.length → (marks3 m L).getD k [] = marksII (m + tot3 (L.take k)) (L.getD k [])
  | m, o :: L, 0, _ => by simp [marks3, tot3]
  | m, o :: L, k + 1, h => by
    have h' : k < L.length := by simpa using h
    have := marks3_getD (m + tot o) L k h'
    show (marks3 (m + tot o) L).getD k [] = marksII (m + tot3 (o :: L.take k)) (L.getD k [])
    rw [this]
    have e : tot3 (o :: L.take k) = tot o + tot3 (L.take k) := by simp [tot3]
    rw [e]; congr 1; omega
theorem own_marks2 (t tt : TypeId) (m : Int) (o : List (List Int)) : AV.own tt 1 o.length ((marksII m o).map (ownI t)) = own2 t tt (marksII m o) := by unfold own2; rw [marksII_length]
theorem get_o3_n {t tt : TypeId} {k : Nat} {L : L3} {K : AV → Prop} (h : k < L.length) (hK : K (own2 t tt (L.getD k []))) : aGet ((L.map (own2 t tt)).drop (0 + (k : Int).toNat * 1)) 0 K := get_map [] (by simp) h hK
def l3P (L : L3) : Prop := L.length ≤ 1048576 ∧ (∀ k, k < L.length → (L.getD k []).length ≤ 1048576) ∧ tot3 L ≤ 1048576
theorem l3P_at {L : L3} (h : l3P L) {k : Nat} (hk : k < L.length) : (L.getD k []).length ≤ 1048576 ∧ tot (L.getD k []) ≤ 1048576 ∧ tot3 (L.take k) ≤ 1048576 ∧ tot3 (L.take (k + 1)) ≤ 1048576 := by
  have h1 := sum_take_le tot L k
  have h1 : tot3 (L.take k) ≤ tot3 L := h1
  have h2 := sum_take_le tot L (k + 1)
  have h2 : tot3 (L.take (k + 1)) ≤ tot3 L := h2
  have h3 := tot3_succ hk
  have h4 := h.2.2
  exact ⟨h.2.1 k hk, by omega, by omega, by omega⟩
def sMark3 : CSpec := fnMR (ι := L3 × Int) 23 1 (fun x => x.1.length) (fun x => x.1.map (own2 3 22)) (fun x => x.2) (fun x => l3P x.1 ∧ 0 ≤ x.2 ∧ x.2 ≤ 1000000) (fun x => x.2 + tot3 x.1) (fun x => (marks3 x.2 x.1).map (own2 3 22))
set_option maxHeartbeats 4000000 in
theorem mark3_sound : Sound Try.prog 42 sMark3 := by
  refine sound_of Try.func42 rfl (enters_of Try.func42 (by kernel_rfl) (by kernel_rfl)) ?_
  rintro ⟨xss, m⟩ hpre
  obtain ⟨hP, hm⟩ : l3P xss ∧ 0 ≤ m ∧ m ≤ 1000000 := hpre
  have hl1 := hP.1
  have hmax : maxLen = 9223372036854775807 := rfl
  conv => whnf
  dsimp only
  repeat' (first
    | (refine append_same ?_; conv => whnf))
  refine loop_u (ι := Nat × L3) [true, true, false, false, false, true, false, false, false, false, false, false, false, false, false, false, false, false, false] (fun | (k, _) => [(1, .int .i64 (m + tot3 (xss.take k))), (5, .int .i64 k)]) (fun | (_, L) => [(0, L.map (own2 3 22))]) (fun | (k, L) => k ≤ xss.length ∧ L.length = xss.length ∧ (∀ j, j < k → L.getD j [] = (marks3 m xss).getD j []) ∧ (∀ j, k ≤ j → L.getD j [] = xss.getD j [])) (fun x => xss.length - x.1) ((0, xss)) ⟨Nat.zero_le _, rfl, fun j hj => absurd hj (Nat.not_lt_zero _), fun _ _ => rfl⟩ ?_ ?_
  · conv => whnf
    repeat' (first | exact Or.inl (And.intro (pureL_o3 _ _ _) rfl) | refine And.intro ?_ ?_)
    repeat' (first
      | exact trivial
      | exact rfl
      | exact Nat.le_of_ble_eq_true rfl
      | exact int_eq (Int.add_zero _).symm)
    all_goals exact int_eq (by simp [tot3])
  · rintro ⟨k, L⟩ ⟨hk, hL, h1, h2⟩
    have hk : k ≤ xss.length := hk
    have hL : L.length = xss.length := hL
    have h1 : ∀ j, j < k → L.getD j [] = (marks3 m xss).getD j [] := h1
    have h2 : ∀ j, k ≤ j → L.getD j [] = xss.getD j [] := h2
    by_cases hlt : k < xss.length
    · have e2 := h2 k (Nat.le_refl _)
      obtain ⟨q1, q2, q3, q4⟩ := l3P_at hP hlt
      have hl : (L.getD k []).length ≤ 1048576 ∧ tot (L.getD k []) ≤ 1048576 := by rw [e2]; exact ⟨q1, q2⟩
      have hs := tot3_succ hlt
      have het : tot (L.getD k []) = tot (xss.getD k []) := by rw [e2]
      conv => whnf
      repeat' (first
        | (refine fun (_ : _ ≤ maxLen) => ?_; conv => whnf)
        | (refine And.intro (by omega) ?_; conv => whnf)
        | (refine markII_call rfl rfl (by omega) ?_; conv => whnf)
        | (refine append_same ?_; conv => whnf)
        | (refine get_o3_n (by omega) ?_; conv => whnf)
        | (refine aIf_dec (fun _ => ?_) (fun _ => ?_) <;> conv => whnf))
      all_goals (first | (exfalso; omega) | skip)
      refine next_ut (k + 1, L.set k (marksII (m + tot3 (xss.take k)) (L.getD k []))) (show xss.length - (k + 1) < xss.length - k by omega) ⟨(by omega : k + 1 ≤ xss.length), (by rw [List.length_set]; exact hL : (L.set k _).length = xss.length), fun j hj => ?_, fun j hj => ?_⟩ ?_
      · have hj : j < k + 1 := hj
        show (L.set k _).getD j [] = _
        rw [getD_setG (by omega)]
        split
        · rename_i e; rw [← e, marks3_getD m xss k hlt, e2]
        · exact h1 j (by omega)
      · have hj : k + 1 ≤ j := hj
        show (L.set k _).getD j [] = _
        rw [getD_setG (by omega), if_neg (by omega)]
        exact h2 j (by omega)
      · conv => whnf
        refine to_close 0 (0 + (k : Int).toNat * 1) 1 1 _ 1 22 _ _ rfl (get_setC (by omega)) rfl (by decide) (Nat.le_of_ble_eq_true rfl) (by decide) (by simp [marksII_length]) ?_
        refine St.le.to ?_
        conv => whnf
        repeat' (first | exact le_setC (by omega) (own_marks2 _ _ _ _) (own2_pure _ _) | refine And.intro ?_ ?_)
        repeat' (first
          | exact trivial
          | exact rfl
          | exact Nat.le_of_ble_eq_true rfl
          | exact int_eq (by omega)
          | exact int_eq (by rw [IntWalk.i64_in _ (by omega)] <;> omega))
    · have e : k = xss.length := by omega
      have et := tot3_all e
      have eL : L = marks3 m xss := getD_extG (d := []) (by rw [marks3_length]; exact hL) fun j hj => h1 j (by rw [marks3_length] at hj; omega)
      conv => whnf
      repeat' (first
        | (refine fun (_ : _ ≤ maxLen) => ?_; conv => whnf)
        | (refine And.intro (by omega) ?_; conv => whnf)
        | (refine markII_call rfl rfl (by omega) ?_; conv => whnf)
        | (refine append_same ?_; conv => whnf)
        | (refine get_o3_n (by omega) ?_; conv => whnf)
        | (refine aIf_dec (fun _ => ?_) (fun _ => ?_) <;> conv => whnf))
      all_goals (first | (exfalso; omega) | skip)
      exact retMR (protL_o3 _ _ _) (by rw [et]) (by rw [eL])
theorem mark3_call {xss : L3} {m : Int} {env : List AV} {rows : List Row} {ctr low τ ver n : Nat} {k : AV → St → Prop} (hr : rows[τ]? = some ⟨ver, 23, 1, xss.map (own2 3 22)⟩) (hn : n = xss.length) (hpre : l3P xss ∧ 0 ≤ m ∧ m ≤ 1000000)
    (hk : k (.int .i64 (m + tot3 xss)) ⟨env, setRows rows [τ] [(marks3 m xss).map (own2 3 22)], ctr + 1, low⟩) : CallG Try.prog 42 ⟨env, rows, ctr, low⟩ [.ref τ ver 0 n, .int .i64 m] k :=
  callMR_in mark3_sound (xss, m) hpre (protL_o3 _ _ _) (protL_o3 _ _ _) hr hn rfl hk
theorem get_m3 {c k : Nat} {L : L3} {o : List (List Int)} {K : AV → Prop} (h : k < L.length) (e : L.getD k [] = o) (hK : K (sl2 c o)) : aGet ((L.map (sl2 c)).drop ((k : Int).toNat * 1)) 0 K := get_l3_n h (e ▸ hK)
theorem held3_sound : Sound Try.prog 43 (fnS (ι := Nat × L3 × Int) (fun | (c, xss, m) => [.sl c xss.length ((marks3 m xss).map (sl2 c)), .int .i64 m]) (fun | (_, xss, m) => l3P xss ∧ 0 ≤ m ∧ m ≤ 1000000) (fun | (_, xss, m) => .int .i64 (m + tot3 xss))) := by
  refine sound_of Try.func43 rfl (enters_of Try.func43 (by kernel_rfl) (by kernel_rfl)) ?_
  rintro ⟨c, xss, m⟩ hpre
  obtain ⟨hP, hm⟩ : l3P xss ∧ 0 ≤ m ∧ m ≤ 1000000 := hpre
  have hl1 := hP.1
  have hmax : maxLen = 9223372036854775807 := rfl
  have hML := marks3_length m xss
  conv => whnf
  repeat' (first
    | (refine append_same ?_; conv => whnf))
  refine loop_u (ι := Nat) [true, true, false, false, false, true, false, false, false, false, false, false, false, false, false, false, false, false, false, false, false] (fun k => [(1, .int .i64 (m + tot3 (xss.take k))), (5, .int .i64 k)]) (fun _ => []) (fun k => k ≤ xss.length) (fun k => xss.length - k) (0) (Nat.zero_le _) ?_ ?_
  · conv => whnf
    repeat' (first
      | exact trivial
      | exact rfl
      | exact pureL_l3 _ _
      | refine And.intro ?_ ?_
      | exact Nat.le_of_ble_eq_true rfl
      | exact int_eq (Int.add_zero _).symm)
    all_goals exact int_eq (by simp [tot3])
  · rintro k hk
    have hk : k ≤ xss.length := hk
    by_cases hlt : k < xss.length
    · have hg := marks3_getD m xss k hlt
      have hs := tot3_succ hlt
      obtain ⟨q1, q2, q3, q4⟩ := l3P_at hP hlt
      have hgl : ((marks3 m xss).getD k []).length = (xss.getD k []).length := by rw [hg, marksII_length]
      conv => whnf
      repeat' (first
        | (refine get_m3 (by omega) hg ?_; conv => whnf)
        | (refine heldIntSS_call (marksII_length _ _) (by omega) ?_; conv => whnf)
        | (refine fun (_ : _ ≤ maxLen) => ?_; conv => whnf)
        | (refine And.intro (by omega) ?_; conv => whnf)
        | (refine callG_t ?_; conv => whnf)
        | (refine append_same ?_; conv => whnf)
        | (refine And.intro (pureL_ii _ _) ?_; conv => whnf)
        | (refine aIf_dec (fun _ => ?_) (fun _ => ?_) <;> conv => whnf))
      all_goals (first | (exfalso; omega) | skip)
      refine next_u (k + 1) (show xss.length - (k + 1) < xss.length - k by omega) (by exact (by omega : k + 1 ≤ xss.length)) ?_
      conv => whnf
      repeat' (first
        | exact trivial
        | exact rfl
        | exact pureL_l3 _ _
        | refine And.intro ?_ ?_
        | exact Nat.le_of_ble_eq_true rfl
        | exact int_eq (by omega)
        | exact int_eq (by rw [IntWalk.i64_in _ (by omega)] <;> omega))
      all_goals (first | exact int_eq (by omega) | skip)
    · have e := tot3_all (show k = xss.length by omega)
      conv => whnf
      repeat' (first
        | (refine fun (_ : _ ≤ maxLen) => ?_; conv => whnf)
        | (refine And.intro (by omega) ?_; conv => whnf)
        | (refine callG_t ?_; conv => whnf)
        | (refine append_same ?_; conv => whnf)
        | (refine get_l3_n (by omega) ?_; conv => whnf)
        | (refine aIf_dec (fun _ => ?_) (fun _ => ?_) <;> conv => whnf))
      all_goals (first | (exfalso; omega) | skip)
      exact retS rfl (int_eq (by rw [e]))
end Go.Proofs.Ytmgggbgejdkamaa

/- Lists of lists of lists: appends. -/
namespace Go.Proofs.Ytmgggbgejdkamaa
set_option maxRecDepth 20000
open Go.RowKit Go.Am
set_option linter.unusedSimpArgs false
/-- A list of lists more in a row of them, which grows. -/
theorem append_l3 {env : List AV} {rows : List Row} {ctr low τ ver n τ' ver' : Nat} {A : List AV} {u : AV} {k : AV → St → Prop} (hr : rows[τ]? = some ⟨ver, 23, 1, A⟩) (hn : n = A.length) (hr' : rows[τ']? = some ⟨ver', 23, 1, [u]⟩) (hu : u.isOwn = false) (hle : n ≤ 1000) (hlow : low ≤ τ)
    (hk : k (.ref τ ctr 0 (n + 1)) ⟨env, rows.set τ ⟨ctr, 23, 1, A ++ [u]⟩, ctr + 1, low⟩) : aAppend Try.prog ⟨env, rows, ctr, low⟩ 53 (.ref τ ver 0 n) (.ref τ' ver' 0 1) k := by
  have hb : (bsz Try.prog 23) = some 24 := by kernel_rfl
  have hz : zeroCellsA Try.prog 23 = some [.nil] := by kernel_rfl
  have hty : Try.prog.underlying 53 = some (.slice 23) := by kernel_rfl
  have hs : ∀ K : Nat → Prop, K 1 → aSz Try.prog 23 K := fun K h => by
    have : tsz Try.prog 23 = some 1 := by kernel_rfl
    unfold aSz; rw [this]; exact h
  subst hn
  unfold aAppend
  rw [hty]
  simp only
  rw [hz]
  simp only
  refine hs _ ?_
  unfold aElems aRow
  simp only [hr']
  rw [if_pos trivial, if_pos (.inr trivial)]
  refine ⟨⟨by simp, by simp [hu]⟩, ⟨rfl, by rw [hb]; rfl, by rw [hb]; decide⟩, ?_⟩
  simp only [hr]
  rw [if_pos trivial, if_pos (by simp)]
  refine ⟨by simp, fun h => by omega, fun _ h => by exfalso; omega, fun _ _ => ⟨hlow, by rw [hb]; simp only [Option.getD_some]; omega, ?_⟩⟩
  have e : A.take (A.length * 1) = A := List.take_of_length_le (by omega)
  rw [e]
  simpa using hk
/-- Two lists more. -/
theorem append_l2 {env : List AV} {rows : List Row} {ctr low τ ver n τ' ver' : Nat} {A : List AV} {u v : AV} {k : AV → St → Prop} (hr : rows[τ]? = some ⟨ver, 22, 1, A⟩) (hn : n = A.length) (hr' : rows[τ']? = some ⟨ver', 22, 1, [u, v]⟩) (hu : u.isOwn = false) (hv : v.isOwn = false) (hle : n ≤ 1000) (hlow : low ≤ τ)
    (hk : k (.ref τ ctr 0 (n + 2)) ⟨env, rows.set τ ⟨ctr, 22, 1, A ++ [u, v]⟩, ctr + 1, low⟩) : aAppend Try.prog ⟨env, rows, ctr, low⟩ 23 (.ref τ ver 0 n) (.ref τ' ver' 0 2) k := by
  have hb : (bsz Try.prog 22) = some 24 := by kernel_rfl
  have hz : zeroCellsA Try.prog 22 = some [.nil] := by kernel_rfl
  have hty : Try.prog.underlying 23 = some (.slice 22) := by kernel_rfl
  have hs : ∀ K : Nat → Prop, K 1 → aSz Try.prog 22 K := fun K h => by
    have : tsz Try.prog 22 = some 1 := by kernel_rfl
    unfold aSz; rw [this]; exact h
  subst hn
  unfold aAppend
  rw [hty]
  simp only
  rw [hz]
  simp only
  refine hs _ ?_
  unfold aElems aRow
  simp only [hr']
  rw [if_pos trivial, if_pos (.inr trivial)]
  refine ⟨⟨by simp, by simp [hu, hv]⟩, ⟨rfl, by rw [hb]; rfl, by rw [hb]; decide⟩, ?_⟩
  simp only [hr]
  rw [if_pos trivial, if_pos (by simp)]
  refine ⟨by simp, fun h => by omega, fun _ h => by exfalso; omega, fun _ _ => ⟨hlow, by rw [hb]; simp only [Option.getD_some]; omega, ?_⟩⟩
  have e : A.take (A.length * 1) = A := List.take_of_length_le (by omega)
  rw [e]
  simpa using hk
/-- None more. -/
theorem append_l0 {env : List AV} {rows : List Row} {ctr low τ ver n τ' ver' : Nat} {A : List AV} {k : AV → St → Prop} (hr : rows[τ]? = some ⟨ver, 22, 1, A⟩) (hn : n = A.length) (hr' : rows[τ']? = some ⟨ver', 22, 1, []⟩)
    (hk : k (.ref τ ver 0 n) ⟨env, rows, ctr, low⟩) : aAppend Try.prog ⟨env, rows, ctr, low⟩ 23 (.ref τ ver 0 n) (.ref τ' ver' 0 0) k := by
  have hb : (bsz Try.prog 22) = some 24 := by kernel_rfl
  have hz : zeroCellsA Try.prog 22 = some [.nil] := by kernel_rfl
  have hty : Try.prog.underlying 23 = some (.slice 22) := by kernel_rfl
  have hs : ∀ K : Nat → Prop, K 1 → aSz Try.prog 22 K := fun K h => by
    have : tsz Try.prog 22 = some 1 := by kernel_rfl
    unfold aSz; rw [this]; exact h
  subst hn
  unfold aAppend
  rw [hty]
  simp only
  rw [hz]
  simp only
  refine hs _ ?_
  unfold aElems aRow
  simp only [hr']
  rw [if_pos trivial, if_pos (.inr trivial)]
  refine ⟨⟨by simp, by simp⟩, ⟨rfl, by rw [hb]; rfl, by rw [hb]; decide⟩, ?_⟩
  simp only [hr]
  rw [if_pos trivial, if_pos (by simp)]
  refine ⟨by simp, fun _ => ?_, fun h _ => by exfalso; revert h; simp, fun h _ => by exfalso; revert h; simp⟩
  simpa using hk
end Go.Proofs.Ytmgggbgejdkamaa
