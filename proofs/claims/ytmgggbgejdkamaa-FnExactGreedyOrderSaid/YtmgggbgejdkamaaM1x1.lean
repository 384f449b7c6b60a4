import Derived.Test.YtmgggbgejdkamaaM01x22
import Derived.Test.YtmgggbgejdkamaaM01x20
/- Chapter 5: all pairs, and the cheapest one. -/
namespace Go.Proofs.Ytmgggbgejdkamaa
set_option maxRecDepth 20000
open Go.RowKit Go.Am
set_option linter.unusedSimpArgs false
attribute [local irreducible] aPlan aGet aIf aLoop aCall RetB NextB CallB CallG aCut aSet aAppend
/-- The pairs of a, as many as k; the pairs of all ahead of a. -/
def prI (a : Nat) : Nat → List (List Int)
  | 0 => []
  | k + 1 => prI a k ++ [[(a : Int), ((a + 1 + k : Nat) : Int)]]
def prO (n : Nat) : Nat → List (List Int)
  | 0 => []
  | a + 1 => prO n a ++ prI a (n - (a + 1))
theorem prI_len (a : Nat) : ∀ k, (prI a k).length = k
  | 0 => rfl
  | k + 1 => by simp [prI, prI_len a k]
theorem prO_le {n : Nat} (hn : n ≤ 4) : ∀ a, a ≤ n → (prO n a).length ≤ 4 * a
  | 0, _ => Nat.le_refl _
  | a + 1, h => by
    have := prO_le hn a (by omega)
    simp only [prO, List.length_append, prI_len]
    omega
theorem len_pr {n a k : Nat} : (prO n a ++ prI a (k + 1)).length = (prO n a ++ prI a k).length + 1 := by simp [prI]; omega
theorem le_snocQ {t : TypeId} {ss ss' : List (List Int)} {xs : List Int} {u : AV} {p : Prop} (h : ss' = ss ++ [xs]) : (pureL (((ss.map (ownI t)) ++ [u]).set ss.length (ownI t xs)) = true ∧ ss'.map (ownI t) = ((ss.map (ownI t)) ++ [u]).set ss.length (ownI t xs)) ∨ p := by
  subst h
  refine le_cells ?_ (pureL_oi _ _)
  rw [List.set_append_right _ _ (by simp)]
  simp
set_option maxHeartbeats 8000000 in
theorem pairsOf_sound : Sound Try.prog 85 (fnR (ι := Nat) 22 1 (fun n => [.int .i64 n]) (fun n => n ≤ 4) (fun n => (prO n n).length) (fun n => (prO n n).map (ownI 3))) := by
  refine sound_of Try.func85 rfl (enters_of Try.func85 (by kernel_rfl) (by kernel_rfl)) ?_
  intro (n : Nat) (hpre : n ≤ 4)
  have hmax : maxLen = 9223372036854775807 := rfl
  conv => whnf
  repeat' (first
    | (refine append_same ?_; conv => whnf)
    | (refine And.intro (And.intro (by kernel_rfl) (And.intro rfl (Nat.le_of_ble_eq_true rfl))) ?_; conv => whnf))
  refine loop_ut (ι := Nat) [true, false, false, true, false, false, false, true, true, false, false, false, false, false, false, false, false, false, false, false, false, false, false, false, false, false] (fun a => [(3, .ref 1 2 0 (prO n a).length), (8, .int .i64 a)]) (fun a => [(1, (prO n a).map (ownI 3))]) (fun a => a ≤ n) (fun a => n - a) (0) (Nat.zero_le _) ?_ ?_
  · conv => whnf
    refine St.le.to ?_
    conv => whnf
    repeat' (first
      | exact trivial
      | exact rfl
      | exact Or.inl (And.intro rfl rfl)
      | refine And.intro ?_ ?_
      | exact Nat.le_of_ble_eq_true rfl)
  · intro a ha
    have ha : a ≤ n := ha
    have hla := prO_le hpre a ha
    by_cases hlt : a < n
    · have hw : IntKind.i64.wrap ((a : Int) + 1) = a + 1 := IntWalk.i64_in _ (by omega)
      conv => whnf
      repeat' (first
        | (refine append_same ?_; conv => whnf)
        | (refine aIf_dec (fun _ => ?_) (fun _ => ?_) <;> conv => whnf))
      all_goals (first | (exfalso; omega) | contradiction | skip)
      refine loop_ut (ι := Nat) [true, false, false, true, true, true, false, true, true, false, false, false, false, false, false, false, false, false, false, false, false, false, false, false, false, false] (fun k => [(3, .ref 1 2 0 (prO n a ++ prI a k).length), (5, .int .i64 ((a + 1 + k : Nat) : Int))]) (fun k => [(1, (prO n a ++ prI a k).map (ownI 3))]) (fun k => a + 1 + k ≤ n) (fun k => n - k) (0) (by exact (by omega : a + 1 + 0 ≤ n)) ?_ ?_
      · conv => whnf
        refine St.le.to ?_
        conv => whnf
        repeat' (first | exact le_ints (by simp [prI]) | exact le_cells (by simp [prI]) (pureL_oi _ _) | refine And.intro ?_ ?_)
        repeat' (first
          | exact trivial
          | exact rfl
          | exact Or.inl (And.intro rfl rfl)
          | exact Nat.le_of_ble_eq_true rfl
          | exact int_eq (by assumption)
          | exact List.length_append)
      · intro k hk
        have hk : a + 1 + k ≤ n := hk
        have hlk : (prO n a ++ prI a k).length = (prO n a).length + k := by rw [List.length_append, prI_len]
        by_cases hlt2 : a + 1 + k < n
        · have hw2 : IntKind.i64.wrap (((a + 1 + k : Nat) : Int) + 1) = ((a + 1 + (k + 1) : Nat) : Int) := IntWalk.i64_in _ (by omega)
          conv => whnf
          repeat' (first
            | (refine append_same ?_; conv => whnf)
            | (refine And.intro (And.intro (by kernel_rfl) (And.intro rfl (Nat.le_of_ble_eq_true rfl))) ?_; conv => whnf)
            | (refine aIf_dec (fun _ => ?_) (fun _ => ?_) <;> conv => whnf))
          all_goals (first | (exfalso; omega) | contradiction | skip)
          refine append_ll rfl (by rw [List.length_map]) rfl rfl (by omega) (Nat.zero_le _) ?_
          conv => whnf
          repeat' (first
            | (refine append_same ?_; conv => whnf))
          refine next_ut (k + 1) (show n - (k + 1) < n - k by omega) (by exact (by omega : a + 1 + (k + 1) ≤ n)) ?_
          conv => whnf
          refine to_close 1 (prO n a ++ prI a k).length 2 _ _ 1 3 _ _ rfl ((List.getElem?_append_right (by rw [List.length_map]; omega)).trans (by rw [List.length_map, Nat.sub_self]; rfl)) rfl (by decide) (Nat.zero_le _) (by decide) (by simp) ?_
          refine St.le.to ?_
          conv => whnf
          repeat' (first | exact le_snocQ (xs := [(a : Int), ((a + 1 + k : Nat) : Int)]) (by simp [prI]) | exact len_pr | refine And.intro ?_ ?_)
          repeat' (first
            | exact trivial
            | exact rfl
            | exact Or.inl (And.intro rfl rfl)
            | exact Nat.le_of_ble_eq_true rfl
            | exact int_eq (by assumption))
        · conv => whnf
          repeat' (first
            | (refine And.intro (by omega) ?_; conv => whnf)
            | (refine append_same ?_; conv => whnf)
            | (refine aIf_dec (fun _ => ?_) (fun _ => ?_) <;> conv => whnf))
          all_goals (first | (exfalso; omega) | contradiction | skip)
          have hk2 : k = n - (a + 1) := by omega
          subst hk2
          refine next_ut (a + 1) (show n - (a + 1) < n - a by omega) (by exact (by omega : a + 1 ≤ n)) ?_
          conv => whnf
          refine St.le.to ?_
          conv => whnf
          repeat' (first
            | exact trivial
            | exact rfl
            | exact Or.inl (And.intro rfl rfl)
            | exact Or.inl (And.intro (pureL_oi _ _) rfl)
            | refine And.intro ?_ ?_
            | exact Nat.le_of_ble_eq_true rfl
            | exact int_eq (by assumption))
    · have he : a = n := by omega
      subst he
      conv => whnf
      repeat' (first
        | (refine append_same ?_; conv => whnf)
        | (refine aIf_dec (fun _ => ?_) (fun _ => ?_) <;> conv => whnf))
      all_goals (first | (exfalso; omega) | contradiction | skip)
      exact retR rfl (protL_oi _ _) rfl rfl
end Go.Proofs.Ytmgggbgejdkamaa

/- Chapter 5: the cheapest pair: mathematics. -/
namespace Go.Proofs.Ytmgggbgejdkamaa
set_option maxRecDepth 20000
open Go.RowKit Go.Am
set_option linter.unusedSimpArgs false
def bc (S : Sm) (p : List Int) : Int := cst S (p.getD 0 0) (p.getD 1 0)
def nrw (S : Sm) (p : List Int) : Prop := (lfS S (p.getD 0 0) (p.getD 1 0)).length ≤ 3
instance (S : Sm) (p : List Int) : Decidable (nrw S p) := by unfold nrw; infer_instance
/-- One more pair is looked at. -/
def scS (S : Sm) (x : List Int × Int) (p : List Int) : List Int × Int := if nrw S p ∧ (x.1 = [] ∨ bc S p < x.2) then (p, bc S p) else x
def scL (S : Sm) (L : List (List Int)) : List Int × Int := L.foldl (scS S) ([], 0)
theorem scL_snoc (S : Sm) (L : List (List Int)) (p : List Int) : scL S (L ++ [p]) = scS S (scL S L) p := by simp [scL]
theorem scL_take {S : Sm} {L : List (List Int)} {k : Nat} (h : k < L.length) : scL S (L.take (k + 1)) = scS S (scL S (L.take k)) (L.getD k []) := by
  rw [List.take_add_one, getD_eq (d := ([] : List Int)) h]
  exact scL_snoc _ _ _
theorem scS_own {S : Sm} (h : okS S) (x : List Int × Int) (p : List Int) : scS (own S) x p = scS S x p := by
  have e1 : nrw (own S) p ↔ nrw S p := by unfold nrw; rw [lf_own_len h]
  have e2 : bc (own S) p = bc S p := cst_own h _ _
  unfold scS
  rw [e2]
  by_cases hc : nrw S p ∧ (x.1 = [] ∨ bc S p < x.2)
  · rw [if_pos hc, if_pos ⟨e1.2 hc.1, hc.2⟩]
  · rw [if_neg hc, if_neg fun h' => hc ⟨e1.1 h'.1, h'.2⟩]
theorem scL_own {S : Sm} (h : okS S) (L : List (List Int)) : scL (own S) L = scL S L := by
  unfold scL
  have e : scS (own S) = scS S := by funext x p; exact scS_own h x p
  rw [e]
theorem scS_t {S : Sm} {x : List Int × Int} {p : List Int} (h : nrw S p) (h2 : x.1 = [] ∨ bc S p < x.2) : scS S x p = (p, bc S p) := if_pos ⟨h, h2⟩
theorem scS_f {S : Sm} {x : List Int × Int} {p : List Int} (h : ¬ nrw S p) : scS S x p = x := if_neg fun h' => h h'.1
theorem scS_f2 {S : Sm} {x : List Int × Int} {p : List Int} (h : ¬ (x.1 = [] ∨ bc S p < x.2)) : scS S x p = x := if_neg fun h' => h h'.2
theorem scF_in {S : Sm} {Q : List Int → Prop} : ∀ (L : List (List Int)) (x : List Int × Int), (∀ p ∈ L, Q p) → ((x.1 = [] ∧ x.2 = 0) ∨ (Q x.1 ∧ nrw S x.1 ∧ x.2 = bc S x.1)) → (((L.foldl (scS S) x).1 = [] ∧ (L.foldl (scS S) x).2 = 0) ∨ (Q (L.foldl (scS S) x).1 ∧ nrw S (L.foldl (scS S) x).1 ∧ (L.foldl (scS S) x).2 = bc S (L.foldl (scS S) x).1))
  | [], _, _, hx => hx
  | p :: L, x, h, hx => by
    refine scF_in L (scS S x p) (fun q hq => h q (List.mem_cons_of_mem _ hq)) ?_
    by_cases hc : nrw S p ∧ (x.1 = [] ∨ bc S p < x.2)
    · rw [scS_t hc.1 hc.2]
      exact .inr ⟨h p List.mem_cons_self, hc.1, rfl⟩
    · have e : scS S x p = x := if_neg hc
      rw [e]; exact hx
/-- What has been found is one of those looked at, with what it takes. -/
theorem scL_in {S : Sm} (L : List (List Int)) : ((scL S L).1 = [] ∧ (scL S L).2 = 0) ∨ ((scL S L).1 ∈ L ∧ nrw S (scL S L).1 ∧ (scL S L).2 = bc S (scL S L).1) := scF_in (Q := (· ∈ L)) L ([], 0) (fun _ h => h) (.inl ⟨rfl, rfl⟩)
theorem scL_nn {S : Sm} (hS : okS S) (L : List (List Int)) : 0 ≤ (scL S L).2 := by
  rcases scL_in (S := S) L with ⟨-, h⟩ | ⟨-, h2, h3⟩
  · omega
  · rw [h3]
    have := (cst_in hS h2).1
    unfold bc
    omega
def lsI (x : List Int × Int) : Int := if x.1 = [] then -1 else x.2
theorem lsI_0 {x : List Int × Int} (h : x.1 = []) : lsI x = -1 := if_pos h
theorem lsI_1 {x : List Int × Int} (h : ¬ x.1 = []) : lsI x = x.2 := if_neg h
theorem lsI_b {S : Sm} (hS : okS S) (L : List (List Int)) : decide (0 ≤ lsI (scL S L)) = decide ((scL S L).1 ≠ []) := by
  have h0 := scL_nn hS L
  by_cases h : (scL S L).1 = []
  · rw [lsI_0 h, decide_eq_false (p := (scL S L).1 ≠ []) fun h' => h' h]; rfl
  · rw [lsI_1 h, decide_eq_true (p := (scL S L).1 ≠ []) h]; exact decide_eq_true h0
/-- Pairs of so many. -/
def isP (n : Nat) (p : List Int) : Prop := p.length = 2 ∧ 0 ≤ p.getD 0 0 ∧ p.getD 0 0 < p.getD 1 0 ∧ p.getD 1 0 < n
theorem prI_is {n a : Nat} : ∀ k, a + 1 + k ≤ n → ∀ p ∈ prI a k, isP n p
  | 0, _, p, h => nomatch h
  | k + 1, hk, p, h => by
    rcases List.mem_append.1 h with h | h
    · exact prI_is k (by omega) p h
    · obtain rfl := List.mem_singleton.1 h
      exact ⟨rfl, by show (0 : Int) ≤ (a : Int); omega, by show (a : Int) < ((a + 1 + k : Nat) : Int); omega, by show ((a + 1 + k : Nat) : Int) < n; omega⟩
theorem prO_is {n : Nat} : ∀ a, a ≤ n → ∀ p ∈ prO n a, isP n p
  | 0, _, p, h => nomatch h
  | a + 1, ha, p, h => by
    rcases List.mem_append.1 h with h | h
    · exact prO_is a (by omega) p h
    · exact prI_is _ (by omega) p h
theorem prO_at {n k : Nat} (hk : k < (prO n n).length) : isP n ((prO n n).getD k []) := prO_is n (Nat.le_refl _) _ (mem_getD (d := ([] : List Int)) hk)
/-- The best pair of an index sum. -/
def bst (S : Sm) : List Int := (scL S (prO S.2.1.length S.2.1.length)).1
theorem bst_own {S : Sm} (h : okS S) : bst (own S) = bst S := by unfold bst; rw [scL_own h, own_fl]
theorem bst_ok {S : Sm} (hb : bst S ≠ []) : okPr S (bst S) := by
  rcases scL_in (S := S) (prO S.2.1.length S.2.1.length) with ⟨h1, -⟩ | ⟨h1, h2, -⟩
  · exact absurd h1 hb
  · have := prO_is S.2.1.length (Nat.le_refl _) _ h1
    exact ⟨this.1, ⟨this.2.1, this.2.2.1, this.2.2.2⟩, h2⟩
/-- A row of lists whose first ones are forgotten. -/
def unk (t : TypeId) (P : List (List Int)) (k : Nat) : List AV := List.replicate k .un ++ (P.drop k).map (ownI t)
theorem unk_0 (t : TypeId) (P : List (List Int)) : unk t P 0 = P.map (ownI t) := rfl
theorem unk_len {t : TypeId} {P : List (List Int)} {k : Nat} (h : k ≤ P.length) : (unk t P k).length = P.length := by
  unfold unk; simp; omega
theorem unk_at {t : TypeId} {P : List (List Int)} {k : Nat} (h : k < P.length) : unk t P k = List.replicate k .un ++ ownI t (P.getD k []) :: (P.drop (k + 1)).map (ownI t) := by
  unfold unk
  have e : P.drop k = P.getD k [] :: P.drop (k + 1) := by
    rw [List.drop_eq_getElem_cons h]
    simp [List.getD, List.getElem?_eq_getElem h]
  rw [e]; rfl
theorem subL_pure (s s' : St) : ∀ cs : List AV, (∀ c ∈ cs, ∃ t z n xs, c = AV.own t z n xs ∧ c.pure = true) → subL s s' cs cs
  | [], _ => trivial
  | c :: cs, h => by
    refine ⟨?_, subL_pure s s' cs fun x hx => h x (List.mem_cons_of_mem _ hx)⟩
    obtain ⟨t, z, n, xs, rfl, hp⟩ := h c List.mem_cons_self
    exact ⟨rfl, hp⟩
theorem subL_un (s s' : St) (X Y : List AV) (h : subL s s' X Y) : ∀ k, subL s s' (List.replicate k .un ++ X) (List.replicate k .un ++ Y)
  | 0 => h
  | k + 1 => ⟨rfl, subL_un s s' X Y h k⟩
theorem le_unkR {t : TypeId} {P : List (List Int)} {k : Nat} {s s' : St} {p : Prop} : p ∨ subL s s' (unk t P k) (unk t P k) := .inr (subL_un _ _ _ _ (subL_pure _ _ _ fun c hc => by
  obtain ⟨xs, -, rfl⟩ := List.mem_map.1 hc
  exact ⟨_, _, _, _, rfl, ownI_pure _ _⟩) k)
theorem le_unk {t : TypeId} {P : List (List Int)} {k j : Nat} {s s' : St} {u : AV} {p : Prop} (hj : j = k) (h : k < P.length) : p ∨ subL s s' ((unk t P k).set j u) (unk t P (k + 1)) := by
  rw [hj]
  refine .inr ?_
  rw [unk_at h, List.set_append_right _ _ (by simp)]
  have e : unk t P (k + 1) = List.replicate k .un ++ .un :: (P.drop (k + 1)).map (ownI t) := by
    unfold unk
    rw [List.replicate_succ', List.append_assoc]; rfl
  rw [e]
  refine subL_un _ _ _ _ ?_ k
  simp only [List.length_replicate, Nat.sub_self, List.set_cons_zero]
  refine ⟨by cases u <;> rfl, subL_pure _ _ _ fun c hc => ?_⟩
  obtain ⟨xs, -, rfl⟩ := List.mem_map.1 hc
  exact ⟨_, _, _, _, rfl, ownI_pure _ _⟩
theorem get_unk {t : TypeId} {P : List (List Int)} {k : Nat} {K : AV → Prop} (h : k < P.length) (hK : K (ownI t (P.getD k []))) : aGet ((unk t P k).drop (0 + (k : Int).toNat * 1)) 0 K := by
  rw [unk_at h, Int.toNat_natCast, Nat.mul_one, Nat.zero_add, List.drop_left' (by simp)]
  exact aGet_in rfl hK
end Go.Proofs.Ytmgggbgejdkamaa

/- Chapter 5: the cheapest pair, of the program. -/
namespace Go.Proofs.Ytmgggbgejdkamaa
set_option maxRecDepth 20000
open Go.RowKit Go.Am
set_option linter.unusedSimpArgs false
attribute [local irreducible] aPlan aGet aIf aLoop aCall RetB NextB CallB CallG aCut aSet aAppend
theorem pairsOf_call {n : Nat} {i : Int} {env : List AV} {rows : List Row} {ctr low : Nat} {k : AV → St → Prop} (hi : i = n) (hpre : n ≤ 4) (h : k (.ref rows.length ctr 0 (prO n n).length) ⟨env, rows ++ [⟨ctr, 22, 1, unk 3 (prO n n) 0⟩], ctr + 1, low⟩) :
    CallB Try.prog 85 ⟨env, rows, ctr, low⟩ [.int .i64 i] k := by
  subst hi
  exact callR_in pairsOf_sound n hpre (protL_oi _ _) h
theorem pairsOf_callP {n : Nat} {P : List (List Int)} {i : Int} {env : List AV} {rows : List Row} {ctr low : Nat} {k : AV → St → Prop} (hi : i = n) (hpre : n ≤ 4) (hP : prO n n = P) (h : k (.ref rows.length ctr 0 P.length) ⟨env, rows ++ [⟨ctr, 22, 1, unk 3 P 0⟩], ctr + 1, low⟩) :
    CallB Try.prog 85 ⟨env, rows, ctr, low⟩ [.int .i64 i] k := by
  subst hP
  exact pairsOf_call hi hpre h
theorem retLB2 {env : List AV} {rows : List Row} {ctr τ ver n : Nat} {t : TypeId} {zs zs' : List Int} {b b' : Bool} (e : zs' = zs) (hr : rows[τ]? = some ⟨ver, t, 1, zs.map (.int .i64)⟩) (hn : n = zs.length) (hb : b = b') :
    RetB ⟨env, rows, ctr, 0⟩ [] (fun r ic news => r = .tup [.ref 0 0 0 zs'.length, .bool b'] ∧ ic = [] ∧ news = [⟨0, t, 1, zs'.map (.int .i64)⟩]) (.tup [.ref τ ver 0 n, .bool b]) := by
  subst e
  exact retLB hr rfl rfl hn hb
def sChp : CSpec := fnLB (ι := IS) 3 (fun | (c, zs, d, fs, e, o) => [.agg [.sl c zs.length (zs.map (.int .i64)), .sl d fs.length (fs.map (slI d)), .sl e o.length (o.map (.int .i64))]]) (fun | (_, zs, _, fs, _, o) => sumP zs fs o) (fun | (_, zs, _, fs, _, o) => bst (zs, fs, o)) (fun | (_, zs, _, fs, _, o) => decide (bst (zs, fs, o) ≠ []))
set_option maxHeartbeats 16000000 in
theorem cheapestPair_sound : Sound Try.prog 88 sChp := by
  refine sound_of Try.func88 rfl (enters_of Try.func88 (by kernel_rfl) (by kernel_rfl)) ?_
  rintro ⟨c, zs, d, fs, q, o⟩ hpre
  have hs : sumP zs fs o := hpre
  have hS : okS (zs, fs, o) := okP_of hs
  have hmax : maxLen = 9223372036854775807 := rfl
  have h4 := hs.2.2.1
  obtain ⟨P, hPe⟩ : ∃ P, prO fs.length fs.length = P := ⟨_, rfl⟩
  have hPl : P.length ≤ 16 := by have := prO_le h4.2 fs.length (Nat.le_refl _); rw [← hPe]; omega
  have hPs : ∀ k, k < P.length → isP fs.length (P.getD k []) := fun k hk => by subst hPe; exact prO_at hk
  have hb0 : bst (zs, fs, o) = (scL (zs, fs, o) P).1 := by rw [← hPe]; rfl
  conv => whnf
  repeat' (first
    | (refine pairsOf_callP rfl h4.2 hPe ?_; conv => whnf)
    | (refine fun (_ : _ ≤ maxLen) => ?_; conv => whnf)
    | (refine aGet_in rfl ?_; conv => whnf)
    | (refine And.intro rfl (And.intro (List.cons_ne_nil _ _) ?_); conv => whnf)
    | (refine callG_t ?_; conv => whnf)
    | (refine append_same ?_; conv => whnf)
    | (refine And.intro (And.intro (by kernel_rfl) (And.intro rfl (Nat.le_of_ble_eq_true rfl))) ?_; conv => whnf))
  refine loop_to (ι := Nat × (List Int × Int)) (fun | (k, x) => ⟨[.un, .ptr 0 1 0, .un, .un, .ref 2 3 0 x.1.length, .int .i64 (lsI x), .un, .un, .un, .un, .un, .un, .un, .un, .un, .un, .ref 3 4 0 P.length, .int .i64 P.length, .int .i64 k, .un, .un, .un, .un, .un, .un, .un, .un, .un, .un, .un, .un, .un, .un, .un, .un, .un, .un, .un, .un, .un, .un, .un, .un, .un, .un, .un, .un, .un, .un, .un, .un], [⟨1, 29, 3, [.sl c zs.length (zs.map (.int .i64)), .sl d fs.length (fs.map (slI d)), .sl q o.length (o.map (.int .i64))]⟩, ⟨2, 3, 1, []⟩, ⟨3, 3, 1, x.1.map (.int .i64)⟩, ⟨4, 22, 1, unk 3 P k⟩], 9, 0⟩) (fun y => y.1 ≤ P.length ∧ y.2 = scL (zs, fs, o) (P.take y.1)) (fun y => P.length - y.1) (0, ([], 0)) ⟨Nat.zero_le _, rfl⟩ ?_ ?_
  · refine St.le.to ?_
    conv => whnf
    repeat' (first | exact Or.inl (And.intro (pureL_oi _ _) rfl) | refine And.intro ?_ ?_)
    repeat' (first
      | exact trivial
      | exact rfl
      | exact pureL_ints _ _
      | exact Or.inl (And.intro rfl rfl)
      | exact pureL_ii _ _
      | refine Or.inr ?_
      | refine And.intro ?_ ?_
      | exact Nat.le_of_ble_eq_true rfl)
  · rintro ⟨k, x⟩ ⟨hk, hx⟩
    have hk : k ≤ P.length := hk
    have hx : x = scL (zs, fs, o) (P.take k) := hx
    have hxn : 0 ≤ x.2 := by rw [hx]; exact scL_nn hS _
    by_cases hlt : k < P.length
    · obtain ⟨hp2, hpr⟩ := hPs k hlt
      have hrg : rng (zs, fs, o) ((P.getD k []).getD (Int.toNat 0) 0) ((P.getD k []).getD (Int.toNat 1) 0) := ⟨hpr.1, hpr.2.1, hpr.2.2⟩
      obtain ⟨W, hW⟩ : ∃ W, mgW (zs, fs, o) ((P.getD k []).getD (Int.toNat 0) 0) ((P.getD k []).getD (Int.toNat 1) 0) = W := ⟨_, rfl⟩
      obtain ⟨B, hB⟩ : ∃ B, mgB (zs, fs, o) ((P.getD k []).getD (Int.toNat 0) 0) ((P.getD k []).getD (Int.toNat 1) 0) = B := ⟨_, rfl⟩
      obtain ⟨b, hb⟩ : ∃ b, decide (mgP (zs, fs, o) ((P.getD k []).getD (Int.toNat 0) 0) ((P.getD k []).getD (Int.toNat 1) 0)) = b := ⟨_, rfl⟩
      conv => whnf
      repeat' (first
        | (refine get_unk hlt ?_; conv => whnf)
        | (refine And.intro (by omega) ?_; conv => whnf)
        | (refine append_same ?_; conv => whnf)
        | (refine aIf_dec (fun _ => ?_) (fun _ => ?_) <;> conv => whnf))
      all_goals (first | (exfalso; omega) | contradiction | skip)
      refine share_in (id := 6) (.one 0 (.one 1 (.one 2 (.one 3 (.one 4 (.one 5 (.one 6 (.tri 7 12 13 (.one 8 (.one 9 (.one 10 (.one 11 (.two 12 13 (.one 13 (.one 14 (.one 15 (.one 16 .nil)))) (.one 12 (.one 14 (.one 15 (.one 16 .nil))))))))) (.two 7 13 (.one 8 (.one 9 (.one 10 (.one 11 (.one 13 (.one 14 (.one 15 (.one 16 .nil)))))))) (.one 7 (.one 8 (.one 9 (.one 10 (.one 11 (.one 14 (.one 15 (.one 16 .nil))))))))) (.two 7 12 (.one 8 (.one 9 (.one 10 (.one 11 (.one 12 (.one 14 (.one 15 (.one 16 .nil)))))))) (.one 7 (.one 8 (.one 9 (.one 10 (.one 11 (.one 14 (.one 15 (.one 16 .nil))))))))))))))))) (⟨[.un, .ptr 0 1 0, .un, .un, .ref 2 3 0 x.1.length, .int .i64 (lsI x), .un, .ref 4 9 0 (P.getD k []).length, .ptr 11 14 0, .ptr 12 18 0, .bool b, .un, .un, .un, .un, .un, .ref 3 4 0 P.length, .int .i64 P.length, .int .i64 k, .un, .un, .un, .un, .un, .un, .un, .un, .un, .un, .un, .un, .un, .un, .un, .un, .un, .un, .un, .un, .un, .un, .un, .un, .un, .un, .un, .un, .un, .un, .un, .un], [⟨1, 29, 3, [.sl c zs.length (zs.map (.int .i64)), .sl d fs.length (fs.map (slI d)), .sl q o.length (o.map (.int .i64))]⟩, ⟨2, 3, 1, []⟩, ⟨3, 3, 1, x.1.map (.int .i64)⟩, ⟨4, 22, 1, unk 3 P (k + 1)⟩, ⟨9, 3, 1, (P.getD k []).map (.int .i64)⟩, ⟨10, 3, 1, W.1.map (.int .i64)⟩, ⟨10, 22, 1, W.2.1.map (ownI 3)⟩, ⟨10, 3, 1, W.2.2.map (.int .i64)⟩, ⟨10, 3, 1, B.1.map (.int .i64)⟩, ⟨10, 22, 1, B.2.1.map (ownI 3)⟩, ⟨10, 3, 1, B.2.2.map (.int .i64)⟩, ⟨14, 29, 3, [.ref 5 10 0 W.1.length, .ref 6 10 0 W.2.1.length, .ref 7 10 0 W.2.2.length]⟩, ⟨18, 29, 3, [.ref 8 10 0 B.1.length, .ref 9 10 0 B.2.1.length, .ref 10 10 0 B.2.2.length]⟩], 30, 0⟩) (by kernel_rfl) (by kernel_rfl) ?_ ?_
      · by_cases hn : nrw (zs, fs, o) (P.getD k [])
        · have hmg : mgP (zs, fs, o) ((P.getD k []).getD (Int.toNat 0) 0) ((P.getD k []).getD (Int.toNat 1) 0) := (mgP_pr0 hs hp2).2 ⟨hp2, hrg, hn⟩
          obtain rfl : b = true := hb.symm.trans (decide_eq_true hmg)
          have hcB : scN B.1 B.2.1 B.2.2 = bc (zs, fs, o) (P.getD k []) := by
            rw [← hB, mgB_t hmg]; exact scN_own (pr_ok hS hn)
          have hp0 : ¬ (P.getD k []) = [] := fun h => by rw [h] at hp2; cases hp2
          have hc5 : scN B.1 B.2.1 B.2.2 = lsI ((P.getD k []), bc (zs, fs, o) (P.getD k [])) := hcB.trans (lsI_1 (x := ((P.getD k []), bc (zs, fs, o) (P.getD k []))) hp0).symm
          by_cases hA : x.1 = []
          · have hl := lsI_0 hA
            conv => whnf
            repeat' (first
              | (refine aIf_t ?_; conv => whnf)
              | (refine aIf_f ?_; conv => whnf)
              | (refine load_same ?_; conv => whnf)
              | (refine And.intro (Nat.le_of_ble_eq_true rfl) ?_; conv => whnf)
              | (refine callG_t ?_; conv => whnf)
              | (refine append_same ?_; conv => whnf)
              | (refine cut_ii rfl ?_; conv => whnf)
              | (refine iSumCost_call trivial ?_; conv => whnf)
              | (refine takeN_in ?_; conv => whnf)
              | (refine cut_ints ?_; conv => whnf)
              | (refine And.intro (by kernel_rfl) ?_; conv => whnf)
              | refine aIf_eqf ?_
              | (refine aIf_dec (fun _ => ?_) (fun _ => ?_) <;> conv => whnf))
            all_goals (first | (exfalso; omega) | contradiction | skip)
            refine next_to (k + 1, ((P.getD k []), bc (zs, fs, o) (P.getD k []))) (show P.length - (k + 1) < P.length - k by omega) ⟨(by omega : k + 1 ≤ P.length), ((scL_take hlt).trans (by rw [← hx]; exact scS_t hn (.inl hA))).symm⟩ ?_
            refine to_force [] ?_
            conv => whnf
            refine to_swap 2 4 [] _ _ rfl rfl (by decide) (Nat.zero_le _) (Nat.zero_le _) ?_
            refine to_force [] ?_
            conv => whnf
            refine St.le.to ?_
            conv => whnf
            repeat' (first | exact le_unkR | refine And.intro ?_ ?_)
            repeat' (first
              | exact trivial
              | exact rfl
              | exact pureL_ints _ _
              | exact Or.inl (And.intro rfl rfl)
              | exact le_ints rfl
              | exact pureL_ii _ _
              | refine Or.inr ?_
              | refine And.intro ?_ ?_
              | exact Nat.le_of_ble_eq_true rfl
              | exact int_eq (by assumption)
              | exact int_eq (by rw [IntWalk.i64_in _ (by omega)] <;> omega))
          · have hl := lsI_1 hA
            by_cases hlt2 : bc (zs, fs, o) (P.getD k []) < x.2
            · conv => whnf
              repeat' (first
                | (refine aIf_t ?_; conv => whnf)
                | (refine aIf_f ?_; conv => whnf)
                | (refine load_same ?_; conv => whnf)
                | (refine And.intro (Nat.le_of_ble_eq_true rfl) ?_; conv => whnf)
                | (refine callG_t ?_; conv => whnf)
                | (refine append_same ?_; conv => whnf)
                | (refine cut_ii rfl ?_; conv => whnf)
                | (refine iSumCost_call trivial ?_; conv => whnf)
                | (refine takeN_in ?_; conv => whnf)
                | (refine cut_ints ?_; conv => whnf)
                | (refine And.intro (by kernel_rfl) ?_; conv => whnf)
                | refine aIf_eqf ?_
                | (refine aIf_dec (fun _ => ?_) (fun _ => ?_) <;> conv => whnf))
              all_goals (first | (exfalso; omega) | contradiction | skip)
              refine next_to (k + 1, ((P.getD k []), bc (zs, fs, o) (P.getD k []))) (show P.length - (k + 1) < P.length - k by omega) ⟨(by omega : k + 1 ≤ P.length), ((scL_take hlt).trans (by rw [← hx]; exact scS_t hn (.inr hlt2))).symm⟩ ?_
              refine to_force [] ?_
              conv => whnf
              refine to_swap 2 4 [] _ _ rfl rfl (by decide) (Nat.zero_le _) (Nat.zero_le _) ?_
              refine to_force [] ?_
              conv => whnf
              refine St.le.to ?_
              conv => whnf
              repeat' (first | exact le_unkR | refine And.intro ?_ ?_)
              repeat' (first
                | exact trivial
                | exact rfl
                | exact pureL_ints _ _
                | exact Or.inl (And.intro rfl rfl)
                | exact le_ints rfl
                | exact pureL_ii _ _
                | refine Or.inr ?_
                | refine And.intro ?_ ?_
                | exact Nat.le_of_ble_eq_true rfl
                | exact int_eq (by assumption)
                | exact int_eq (by rw [IntWalk.i64_in _ (by omega)] <;> omega))
            · conv => whnf
              repeat' (first
                | (refine aIf_t ?_; conv => whnf)
                | (refine aIf_f ?_; conv => whnf)
                | (refine load_same ?_; conv => whnf)
                | (refine And.intro (Nat.le_of_ble_eq_true rfl) ?_; conv => whnf)
                | (refine callG_t ?_; conv => whnf)
                | (refine append_same ?_; conv => whnf)
                | (refine cut_ii rfl ?_; conv => whnf)
                | (refine iSumCost_call trivial ?_; conv => whnf)
                | (refine takeN_in ?_; conv => whnf)
                | (refine cut_ints ?_; conv => whnf)
                | (refine And.intro (by kernel_rfl) ?_; conv => whnf)
                | refine aIf_eqf ?_
                | (refine aIf_dec (fun _ => ?_) (fun _ => ?_) <;> conv => whnf))
              all_goals (first | (exfalso; omega) | contradiction | skip)
              refine next_to (k + 1, x) (show P.length - (k + 1) < P.length - k by omega) ⟨(by omega : k + 1 ≤ P.length), ((scL_take hlt).trans (by rw [← hx]; exact scS_f2 fun h => h.elim hA hlt2)).symm⟩ ?_
              refine St.le.to ?_
              conv => whnf
              repeat' (first | exact le_unkR | refine And.intro ?_ ?_)
              repeat' (first
                | exact trivial
                | exact rfl
                | exact pureL_ints _ _
                | exact Or.inl (And.intro rfl rfl)
                | exact le_ints rfl
                | exact pureL_ii _ _
                | refine Or.inr ?_
                | refine And.intro ?_ ?_
                | exact Nat.le_of_ble_eq_true rfl
                | exact int_eq (by rw [IntWalk.i64_in _ (by omega)] <;> omega))
        · obtain rfl : b = false := hb.symm.trans (decide_eq_false fun h => hn h.2.2)
          conv => whnf
          repeat' (first
            | (refine aIf_t ?_; conv => whnf)
            | (refine append_same ?_; conv => whnf))
          all_goals (first | (exfalso; omega) | contradiction | skip)
          refine next_to (k + 1, x) (show P.length - (k + 1) < P.length - k by omega) ⟨(by omega : k + 1 ≤ P.length), ((scL_take hlt).trans (by rw [← hx]; exact scS_f hn)).symm⟩ ?_
          refine St.le.to ?_
          conv => whnf
          repeat' (first | exact le_unkR | refine And.intro ?_ ?_)
          repeat' (first
            | exact trivial
            | exact rfl
            | exact pureL_ints _ _
            | exact Or.inl (And.intro rfl rfl)
            | exact le_ints rfl
            | exact pureL_ii _ _
            | refine Or.inr ?_
            | refine And.intro ?_ ?_
            | exact Nat.le_of_ble_eq_true rfl
            | exact int_eq (by rw [IntWalk.i64_in _ (by omega)] <;> omega))
      · skip
        conv => whnf
        repeat' (first
          | (refine iMergeOf_callW hW hB hb ?_; conv => whnf)
          | (refine fork_in ?_ ?_ <;> conv => whnf)
          | (refine get_int0 (by omega) ?_; conv => whnf)
          | (refine aGet_in rfl ?_; conv => whnf)
          | (refine And.intro (by omega) ?_; conv => whnf)
          | (refine load_same ?_; conv => whnf)
          | (refine And.intro (Nat.le_of_ble_eq_true rfl) ?_; conv => whnf)
          | (refine append_same ?_; conv => whnf)
          | (refine And.intro (pureL_ii _ _) ?_; conv => whnf)
          | (refine takeN_in ?_; conv => whnf)
          | (refine And.intro (pureL_ints _ _) ?_; conv => whnf)
          | (refine set_force ?_; conv => whnf)
          | (refine And.intro (by kernel_rfl) ?_; conv => whnf))
        all_goals first
          | (skip
             refine to_force [false, false, false, false, false, false, false, false, false, false, false, false, false, false, true, false, false, false, true] ?_
             conv => whnf
             refine to_swap 11 14 [false, false, false, false, false, false, false, false, false, false, false, true, false, false, false, false, false, false, true] _ _ rfl rfl (by decide) (Nat.zero_le _) (Nat.zero_le _) ?_
             refine to_force [false, false, false, false, false, false, false, false, false, false, false, true, false, false, false, false, false, false, true] ?_
             conv => whnf
             refine to_swap 12 18 [false, false, false, false, false, false, false, false, false, false, false, true, true] _ _ rfl rfl (by decide) (Nat.zero_le _) (Nat.zero_le _) ?_
             refine to_force [false, false, false, false, false, false, false, false, false, false, false, true, true] ?_
             conv => whnf
             refine St.le.to ?_
             conv => whnf
             repeat' (first | exact le_unk (by omega) hlt | refine And.intro ?_ ?_)
             repeat' (first
               | exact trivial
               | exact rfl
               | exact pureL_ints _ _
               | exact Or.inl (And.intro rfl rfl)
               | exact le_ints rfl
               | exact pureL_ii _ _
               | exact Or.inl (And.intro (pureL_oi _ _) rfl)
               | refine Or.inr ?_
               | refine And.intro ?_ ?_
               | exact Nat.le_of_ble_eq_true rfl)
             done)
          | (skip
             refine to_force [false, false, false, false, false, false, false, false, false, false, false, false, false, false, true, false, false, false, true] ?_
             conv => whnf
             refine to_swap 11 18 [false, false, false, false, false, false, false, false, false, false, false, true, false, false, true] _ _ rfl rfl (by decide) (Nat.zero_le _) (Nat.zero_le _) ?_
             refine to_force [false, false, false, false, false, false, false, false, false, false, false, true, false, false, true] ?_
             conv => whnf
             refine to_swap 12 14 [false, false, false, false, false, false, false, false, false, false, false, true, true] _ _ rfl rfl (by decide) (Nat.zero_le _) (Nat.zero_le _) ?_
             refine to_force [false, false, false, false, false, false, false, false, false, false, false, true, true] ?_
             conv => whnf
             refine St.le.to ?_
             conv => whnf
             repeat' (first | exact le_unk (by omega) hlt | refine And.intro ?_ ?_)
             repeat' (first
               | exact trivial
               | exact rfl
               | exact pureL_ints _ _
               | exact Or.inl (And.intro rfl rfl)
               | exact le_ints rfl
               | exact pureL_ii _ _
               | exact Or.inl (And.intro (pureL_oi _ _) rfl)
               | refine Or.inr ?_
               | refine And.intro ?_ ?_
               | exact Nat.le_of_ble_eq_true rfl)
             done)
          | (skip
             refine to_force [false, false, false, false, false, false, false, false, true, false, false, false, false, false, false, false, false, false, true] ?_
             conv => whnf
             refine to_swap 5 9 [false, false, false, false, false, false, false, false, true, false, false, false, false, false, false, false, false, false, true] _ _ rfl rfl (by decide) (Nat.zero_le _) (Nat.zero_le _) ?_
             refine to_force [false, false, false, false, false, false, false, false, true, false, false, false, false, false, false, false, false, false, true] ?_
             conv => whnf
             refine to_swap 6 10 [false, false, false, false, false, false, false, false, true, false, false, false, false, false, false, false, false, false, true] _ _ rfl rfl (by decide) (Nat.zero_le _) (Nat.zero_le _) ?_
             refine to_force [false, false, false, false, false, false, false, false, true, false, false, false, false, false, false, false, false, false, true] ?_
             conv => whnf
             refine to_swap 7 11 [false, false, false, false, false, false, false, false, true, false, false, false, false, false, false, false, false, false, true] _ _ rfl rfl (by decide) (Nat.zero_le _) (Nat.zero_le _) ?_
             refine to_force [false, false, false, false, false, false, false, false, true, false, false, false, false, false, false, false, false, false, true] ?_
             conv => whnf
             refine to_swap 8 12 [false, false, false, false, false, false, false, false, false, false, false, false, true, false, false, false, false, false, true] _ _ rfl rfl (by decide) (Nat.zero_le _) (Nat.zero_le _) ?_
             refine to_force [false, false, false, false, false, false, false, false, false, false, false, false, true, false, false, false, false, false, true] ?_
             conv => whnf
             refine to_swap 9 13 [false, false, false, false, false, false, false, false, false, false, false, false, true, false, false, false, false, false, true] _ _ rfl rfl (by decide) (Nat.zero_le _) (Nat.zero_le _) ?_
             refine to_force [false, false, false, false, false, false, false, false, false, false, false, false, true, false, false, false, false, false, true] ?_
             conv => whnf
             refine to_swap 10 14 [false, false, false, false, false, false, false, false, false, false, false, false, true, false, false, false, false, false, true] _ _ rfl rfl (by decide) (Nat.zero_le _) (Nat.zero_le _) ?_
             refine to_force [false, false, false, false, false, false, false, false, false, false, false, false, true, false, false, false, false, false, true] ?_
             conv => whnf
             refine to_swap 11 12 [false, false, false, false, false, false, false, false, false, false, false, true, false, false, false, false, false, false, true] _ _ rfl rfl (by decide) (Nat.zero_le _) (Nat.zero_le _) ?_
             refine to_force [false, false, false, false, false, false, false, false, false, false, false, true, false, false, false, false, false, false, true] ?_
             conv => whnf
             refine to_swap 12 18 [false, false, false, false, false, false, false, false, false, false, false, true, true] _ _ rfl rfl (by decide) (Nat.zero_le _) (Nat.zero_le _) ?_
             refine to_force [false, false, false, false, false, false, false, false, false, false, false, true, true] ?_
             conv => whnf
             refine St.le.to ?_
             conv => whnf
             repeat' (first | exact le_unk (by omega) hlt | refine And.intro ?_ ?_)
             repeat' (first
               | exact trivial
               | exact rfl
               | exact pureL_ints _ _
               | exact Or.inl (And.intro rfl rfl)
               | exact le_ints rfl
               | exact pureL_ii _ _
               | exact Or.inl (And.intro (pureL_oi _ _) rfl)
               | refine Or.inr ?_
               | refine And.intro ?_ ?_
               | exact Nat.le_of_ble_eq_true rfl)
             done)
          | (skip
             refine to_force [false, false, false, false, false, false, false, false, true, false, false, false, true] ?_
             conv => whnf
             refine to_swap 5 13 [false, false, false, false, false, false, false, false, true, false, false, false, true] _ _ rfl rfl (by decide) (Nat.zero_le _) (Nat.zero_le _) ?_
             refine to_force [false, false, false, false, false, false, false, false, true, false, false, false, true] ?_
             conv => whnf
             refine to_swap 6 14 [false, false, false, false, false, false, false, false, true, false, false, false, true] _ _ rfl rfl (by decide) (Nat.zero_le _) (Nat.zero_le _) ?_
             refine to_force [false, false, false, false, false, false, false, false, true, false, false, false, true] ?_
             conv => whnf
             refine to_swap 7 15 [false, false, false, false, false, false, false, false, true, false, false, false, true] _ _ rfl rfl (by decide) (Nat.zero_le _) (Nat.zero_le _) ?_
             refine to_force [false, false, false, false, false, false, false, false, true, false, false, false, true] ?_
             conv => whnf
             refine to_swap 8 16 [false, false, false, false, false, false, false, false, false, false, false, false, true, false, false, false, true] _ _ rfl rfl (by decide) (Nat.zero_le _) (Nat.zero_le _) ?_
             refine to_force [false, false, false, false, false, false, false, false, false, false, false, false, true, false, false, false, true] ?_
             conv => whnf
             refine to_swap 9 17 [false, false, false, false, false, false, false, false, false, false, false, false, true, false, false, false, true] _ _ rfl rfl (by decide) (Nat.zero_le _) (Nat.zero_le _) ?_
             refine to_force [false, false, false, false, false, false, false, false, false, false, false, false, true, false, false, false, true] ?_
             conv => whnf
             refine to_swap 10 18 [false, false, false, false, false, false, false, false, false, false, false, false, true, false, false, false, true] _ _ rfl rfl (by decide) (Nat.zero_le _) (Nat.zero_le _) ?_
             refine to_force [false, false, false, false, false, false, false, false, false, false, false, false, true, false, false, false, true] ?_
             conv => whnf
             refine to_swap 11 16 [false, false, false, false, false, false, false, false, false, false, false, true, true] _ _ rfl rfl (by decide) (Nat.zero_le _) (Nat.zero_le _) ?_
             refine to_force [false, false, false, false, false, false, false, false, false, false, false, true, true] ?_
             conv => whnf
             refine St.le.to ?_
             conv => whnf
             repeat' (first | exact le_unk (by omega) hlt | refine And.intro ?_ ?_)
             repeat' (first
               | exact trivial
               | exact rfl
               | exact pureL_ints _ _
               | exact Or.inl (And.intro rfl rfl)
               | exact le_ints rfl
               | exact pureL_ii _ _
               | exact Or.inl (And.intro (pureL_oi _ _) rfl)
               | refine Or.inr ?_
               | refine And.intro ?_ ?_
               | exact Nat.le_of_ble_eq_true rfl)
             done)
          | (skip
             refine to_force [false, false, false, false, false, false, false, false, true, false, false, false, false, false, false, false, false, false, true] ?_
             conv => whnf
             refine to_swap 5 9 [false, false, false, false, false, false, false, false, true, false, false, false, false, false, false, false, false, false, true] _ _ rfl rfl (by decide) (Nat.zero_le _) (Nat.zero_le _) ?_
             refine to_force [false, false, false, false, false, false, false, false, true, false, false, false, false, false, false, false, false, false, true] ?_
             conv => whnf
             refine to_swap 6 10 [false, false, false, false, false, false, false, false, true, false, false, false, false, false, false, false, false, false, true] _ _ rfl rfl (by decide) (Nat.zero_le _) (Nat.zero_le _) ?_
             refine to_force [false, false, false, false, false, false, false, false, true, false, false, false, false, false, false, false, false, false, true] ?_
             conv => whnf
             refine to_swap 7 11 [false, false, false, false, false, false, false, false, true, false, false, false, false, false, false, false, false, false, true] _ _ rfl rfl (by decide) (Nat.zero_le _) (Nat.zero_le _) ?_
             refine to_force [false, false, false, false, false, false, false, false, true, false, false, false, false, false, false, false, false, false, true] ?_
             conv => whnf
             refine to_swap 8 12 [false, false, false, false, false, false, false, false, false, false, false, false, true, false, false, false, false, false, true] _ _ rfl rfl (by decide) (Nat.zero_le _) (Nat.zero_le _) ?_
             refine to_force [false, false, false, false, false, false, false, false, false, false, false, false, true, false, false, false, false, false, true] ?_
             conv => whnf
             refine to_swap 9 13 [false, false, false, false, false, false, false, false, false, false, false, false, true, false, false, false, false, false, true] _ _ rfl rfl (by decide) (Nat.zero_le _) (Nat.zero_le _) ?_
             refine to_force [false, false, false, false, false, false, false, false, false, false, false, false, true, false, false, false, false, false, true] ?_
             conv => whnf
             refine to_swap 10 14 [false, false, false, false, false, false, false, false, false, false, false, false, true, false, false, false, false, false, true] _ _ rfl rfl (by decide) (Nat.zero_le _) (Nat.zero_le _) ?_
             refine to_force [false, false, false, false, false, false, false, false, false, false, false, false, true, false, false, false, false, false, true] ?_
             conv => whnf
             refine to_swap 11 18 [false, false, false, false, false, false, false, false, false, false, false, true, true] _ _ rfl rfl (by decide) (Nat.zero_le _) (Nat.zero_le _) ?_
             refine to_force [false, false, false, false, false, false, false, false, false, false, false, true, true] ?_
             conv => whnf
             refine St.le.to ?_
             conv => whnf
             repeat' (first | exact le_unk (by omega) hlt | refine And.intro ?_ ?_)
             repeat' (first
               | exact trivial
               | exact rfl
               | exact pureL_ints _ _
               | exact Or.inl (And.intro rfl rfl)
               | exact le_ints rfl
               | exact pureL_ii _ _
               | exact Or.inl (And.intro (pureL_oi _ _) rfl)
               | refine Or.inr ?_
               | refine And.intro ?_ ?_
               | exact Nat.le_of_ble_eq_true rfl)
             done)
          | (skip
             refine to_force [false, false, false, false, false, false, false, false, true, false, false, false, true] ?_
             conv => whnf
             refine to_swap 5 13 [false, false, false, false, false, false, false, false, true, false, false, false, true] _ _ rfl rfl (by decide) (Nat.zero_le _) (Nat.zero_le _) ?_
             refine to_force [false, false, false, false, false, false, false, false, true, false, false, false, true] ?_
             conv => whnf
             refine to_swap 6 14 [false, false, false, false, false, false, false, false, true, false, false, false, true] _ _ rfl rfl (by decide) (Nat.zero_le _) (Nat.zero_le _) ?_
             refine to_force [false, false, false, false, false, false, false, false, true, false, false, false, true] ?_
             conv => whnf
             refine to_swap 7 15 [false, false, false, false, false, false, false, false, true, false, false, false, true] _ _ rfl rfl (by decide) (Nat.zero_le _) (Nat.zero_le _) ?_
             refine to_force [false, false, false, false, false, false, false, false, true, false, false, false, true] ?_
             conv => whnf
             refine to_swap 8 16 [false, false, false, false, false, false, false, false, false, false, false, false, true, false, false, false, true] _ _ rfl rfl (by decide) (Nat.zero_le _) (Nat.zero_le _) ?_
             refine to_force [false, false, false, false, false, false, false, false, false, false, false, false, true, false, false, false, true] ?_
             conv => whnf
             refine to_swap 9 17 [false, false, false, false, false, false, false, false, false, false, false, false, true, false, false, false, true] _ _ rfl rfl (by decide) (Nat.zero_le _) (Nat.zero_le _) ?_
             refine to_force [false, false, false, false, false, false, false, false, false, false, false, false, true, false, false, false, true] ?_
             conv => whnf
             refine to_swap 10 18 [false, false, false, false, false, false, false, false, false, false, false, false, true, false, false, false, true] _ _ rfl rfl (by decide) (Nat.zero_le _) (Nat.zero_le _) ?_
             refine to_force [false, false, false, false, false, false, false, false, false, false, false, false, true, false, false, false, true] ?_
             conv => whnf
             refine to_swap 11 12 [false, false, false, false, false, false, false, false, false, false, false, true, false, false, false, false, true] _ _ rfl rfl (by decide) (Nat.zero_le _) (Nat.zero_le _) ?_
             refine to_force [false, false, false, false, false, false, false, false, false, false, false, true, false, false, false, false, true] ?_
             conv => whnf
             refine to_swap 12 16 [false, false, false, false, false, false, false, false, false, false, false, true, true] _ _ rfl rfl (by decide) (Nat.zero_le _) (Nat.zero_le _) ?_
             refine to_force [false, false, false, false, false, false, false, false, false, false, false, true, true] ?_
             conv => whnf
             refine St.le.to ?_
             conv => whnf
             repeat' (first | exact le_unk (by omega) hlt | refine And.intro ?_ ?_)
             repeat' (first
               | exact trivial
               | exact rfl
               | exact pureL_ints _ _
               | exact Or.inl (And.intro rfl rfl)
               | exact le_ints rfl
               | exact pureL_ii _ _
               | exact Or.inl (And.intro (pureL_oi _ _) rfl)
               | refine Or.inr ?_
               | refine And.intro ?_ ?_
               | exact Nat.le_of_ble_eq_true rfl)
             done)

    · have he : k = P.length := by omega
      subst he
      rw [List.take_length] at hx
      conv => whnf
      repeat' (first
        | (refine And.intro (by omega) ?_; conv => whnf)
        | (refine append_same ?_; conv => whnf)
        | (refine aIf_dec (fun _ => ?_) (fun _ => ?_) <;> conv => whnf))
      all_goals (first | (exfalso; omega) | contradiction | skip)
      exact retLB2 (hb0.trans (by rw [← hx])) rfl rfl (by show decide (0 ≤ lsI x) = decide (bst (zs, fs, o) ≠ []); rw [hb0, hx]; exact lsI_b hS P)
end Go.Proofs.Ytmgggbgejdkamaa

/- Chapter 5: the greedy order: mathematics. -/
namespace Go.Proofs.Ytmgggbgejdkamaa
set_option maxRecDepth 20000
open Go.RowKit Go.Am
set_option linter.unusedSimpArgs false
def gT (S : Sm) : Nat → Sm
  | 0 => S
  | i + 1 => stp (gT S i) (bst (gT S i))
def gL (S : Sm) : Nat → List (List Int)
  | 0 => []
  | i + 1 => gL S i ++ [bst (gT S i)]
def gP (S : Sm) (i : Nat) : Prop := ∀ j, j < i → bst (gT S j) ≠ []
instance (S : Sm) (i : Nat) : Decidable (gP S i) := by unfold gP; infer_instance
theorem gP_0 (S : Sm) : gP S 0 := fun _ h => absurd h (Nat.not_lt_zero _)
theorem gP_s {S : Sm} {i : Nat} (h : gP S i) (hb : bst (gT S i) ≠ []) : gP S (i + 1) := fun j hj => by
  rcases Nat.lt_succ_iff_lt_or_eq.1 hj with h1 | rfl
  · exact h j h1
  · exact hb
theorem gT_ok {S : Sm} (hS : okS S) : ∀ i, gP S i → okS (gT S i) ∧ (gT S i).2.1.length + i = S.2.1.length
  | 0, _ => ⟨hS, rfl⟩
  | i + 1, h => by
    obtain ⟨h1, h2⟩ := gT_ok hS i fun j hj => h j (by omega)
    obtain ⟨-, q2, q3⟩ := bst_ok (h i (Nat.lt_succ_self _))
    refine ⟨mrg_ok h1 q2 q3, ?_⟩
    have := mrg_fl q2
    show (mrg (gT S i) _ _).2.1.length + (i + 1) = _
    omega
theorem gL_len (S : Sm) : ∀ i, (gL S i).length = i
  | 0 => rfl
  | i + 1 => by simp [gL, gL_len S i]
def grP (S : Sm) : Prop := sumP S.1 S.2.1 S.2.2 ∧ gP S (S.2.1.length - 1)
instance (S : Sm) : Decidable (grP S) := by unfold grP; infer_instance
def grM (S : Sm) : List (List Int) × Bool := if grP S then (gL S (S.2.1.length - 1), true) else ([], false)
theorem gr_t {S : Sm} (h : grP S) : grM S = (gL S (S.2.1.length - 1), true) := if_pos h
theorem gr_f {S : Sm} (h : ¬ grP S) : grM S = ([], false) := if_neg h
def sGreedy : CSpec := fnRB (ι := IS) 22 1 (fun | (c, zs, d, fs, e, o) => [.agg [.sl c zs.length (zs.map (.int .i64)), .sl d fs.length (fs.map (slI d)), .sl e o.length (o.map (.int .i64))]]) (fun _ => True) (fun | (_, zs, _, fs, _, o) => (grM (zs, fs, o)).1.length) (fun | (_, zs, _, fs, _, o) => (grM (zs, fs, o)).1.map (ownI 3)) (fun | (_, zs, _, fs, _, o) => (grM (zs, fs, o)).2)
theorem retG {env : List AV} {rows : List Row} {ctr τ ver n : Nat} {L : List (List Int)} {t : TypeId} {b : Bool} {M : List (List Int) × Bool} (hM : M = (L, b)) (hr : rows[τ]? = some ⟨ver, 22, 1, L.map (ownI t)⟩) (hn : n = L.length) :
    RetB ⟨env, rows, ctr, 0⟩ [] (fun r ic news => ic = [] ∧ r = .tup [.ref 0 0 0 M.1.length, .bool M.2] ∧ news = [⟨0, 22, 1, M.1.map (ownI t)⟩]) (.tup [.ref τ ver 0 n, .bool b]) := by
  subst hM; subst hn
  exact retRB hr (protL_oi _ _) rfl rfl rfl
end Go.Proofs.Ytmgggbgejdkamaa
