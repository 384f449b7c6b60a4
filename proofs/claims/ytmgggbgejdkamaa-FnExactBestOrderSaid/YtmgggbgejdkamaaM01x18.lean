import Derived.Test.YtmgggbgejdkamaaM01x13
import Derived.Test.YtmgggbgejdkamaaM01x17
import Derived.Test.YtmgggbgejdkamaaM01x16
import Derived.Test.YtmgggbgejdkamaaM01x15
/- Chapter 2: copies, axes, what is told; NumAt, NegOf, FoldOf. -/
namespace Go.Proofs.Ytmgggbgejdkamaa
set_option maxRecDepth 20000
open Go.RowKit Go.Am
theorem append_sl {env : List AV} {rows : List Row} {ctr low τ ver n c m : Nat} {zs ws : List Int} {cells : List AV} {k : AV → St → Prop} (hr : rows[τ]? = some ⟨ver, 3, 1, zs.map (.int .i64)⟩) (hc : cells = ws.map (.int .i64)) (hm : m = ws.length) (hn : n = zs.length) (hle : n + m ≤ 4000000) (hlow : low ≤ τ)
    (h0 : ws = [] → k (.ref τ ver 0 n) ⟨env, rows, ctr, low⟩)
    (hk : ws ≠ [] → k (.ref τ ctr 0 (n + m)) ⟨env, rows.set τ ⟨ctr, 3, 1, (zs ++ ws).map (.int .i64)⟩, ctr + 1, low⟩) : aAppend Try.prog ⟨env, rows, ctr, low⟩ 22 (.ref τ ver 0 n) (.sl c m cells) k := by
  have hb : (bsz Try.prog 3) = some 8 := by kernel_rfl
  have hz : zeroCellsA Try.prog 3 = some [.int .i64 0] := by kernel_rfl
  have hu : Try.prog.underlying 22 = some (.slice 3) := by kernel_rfl
  have hs : ∀ K : Nat → Prop, K 1 → aSz Try.prog 3 K := fun K h => by
    have : tsz Try.prog 3 = some 1 := by kernel_rfl
    unfold aSz; rw [this]; exact h
  subst hn; subst hm; subst hc
  unfold aAppend
  rw [hu]
  simp only
  rw [hz]
  simp only
  refine hs _ ?_
  unfold aElems aRow
  refine ⟨by simp, ⟨rfl, by rw [hb]; rfl, by rw [hb]; decide⟩, ?_⟩
  simp only [hr]
  rw [if_pos trivial, if_pos (by simp)]
  refine ⟨by simp, fun h => h0 (List.eq_nil_of_length_eq_zero h), fun h0' h => ?_, fun h1 _ => ⟨hlow, by rw [hb]; simp only [Option.getD_some]; omega, ?_⟩⟩
  · exfalso; simp at h; omega
  · have e : (zs.map (AV.int .i64)).take zs.length = zs.map (.int .i64) := List.take_of_length_le (by simp)
    have hne : ws ≠ [] := fun e => by subst e; simp at h1
    simpa [e] using hk hne
attribute [local irreducible] aPlan aGet aIf aLoop aCall RetB NextB CallB CallG aCut aSet aAppend

set_option maxRecDepth 10000 in
theorem copyNums_sound : Sound Try.prog 86 (fnL (ι := Nat × List Int) 3 (fun | (c, zs) => [.sl c zs.length (zs.map (.int .i64))]) (fun | (_, zs) => zs.length ≤ 1048576) (fun | (_, zs) => zs)) := by
  refine sound_of Try.func86 rfl (enters_of Try.func86 (by kernel_rfl) (by kernel_rfl)) ?_
  rintro ⟨c, zs⟩ hpre
  have hpre : zs.length ≤ 1048576 := hpre
  conv => whnf
  repeat' (first
    | (refine append_same ?_; conv => whnf)
    | (refine And.intro (And.intro (by kernel_rfl) (And.intro rfl (Nat.le_of_ble_eq_true rfl))) ?_; conv => whnf))
  refine append_sl (zs := []) (ws := zs) rfl rfl rfl rfl (by omega) (Nat.zero_le _) (fun e => ?_) (fun _ => ?_)
  · subst e
    conv => whnf
    repeat' (first
      | (refine append_same ?_; conv => whnf))
    exact retL rfl rfl rfl rfl
  · conv => whnf
    repeat' (first
      | (refine append_same ?_; conv => whnf))
    exact retL rfl rfl rfl (by simp)
theorem copyNums_call {c : Nat} {zs : List Int} {env : List AV} {rows : List Row} {ctr low : Nat} {k : AV → St → Prop} (hpre : zs.length ≤ 1048576) (h : k (.ref rows.length ctr 0 zs.length) ⟨env, rows ++ [⟨ctr, 3, 1, zs.map (.int .i64)⟩], ctr + 1, low⟩) :
    CallB Try.prog 86 ⟨env, rows, ctr, low⟩ [.sl c zs.length (zs.map (.int .i64))] k := callL_in copyNums_sound (c, zs) hpre h
set_option maxRecDepth 10000 in
theorem l2Nums_sound : Sound Try.prog 98 (fnL (ι := Nat × List Int) 3 (fun | (c, zs) => [.sl c zs.length (zs.map (.int .i64))]) (fun | (_, zs) => zs.length ≤ 1048576) (fun | (_, zs) => zs)) := by
  refine sound_of Try.func98 rfl (enters_of Try.func98 (by kernel_rfl) (by kernel_rfl)) ?_
  rintro ⟨c, zs⟩ hpre
  have hpre : zs.length ≤ 1048576 := hpre
  conv => whnf
  repeat' (first
    | (refine append_same ?_; conv => whnf)
    | (refine And.intro (And.intro (by kernel_rfl) (And.intro rfl (Nat.le_of_ble_eq_true rfl))) ?_; conv => whnf))
  refine append_sl (zs := []) (ws := zs) rfl rfl rfl rfl (by omega) (Nat.zero_le _) (fun e => ?_) (fun _ => ?_)
  · subst e
    conv => whnf
    repeat' (first
      | (refine append_same ?_; conv => whnf))
    exact retL rfl rfl rfl rfl
  · conv => whnf
    repeat' (first
      | (refine append_same ?_; conv => whnf))
    exact retL rfl rfl rfl (by simp)
theorem l2Nums_call {c : Nat} {zs : List Int} {env : List AV} {rows : List Row} {ctr low : Nat} {k : AV → St → Prop} (hpre : zs.length ≤ 1048576) (h : k (.ref rows.length ctr 0 zs.length) ⟨env, rows ++ [⟨ctr, 3, 1, zs.map (.int .i64)⟩], ctr + 1, low⟩) :
    CallB Try.prog 98 ⟨env, rows, ctr, low⟩ [.sl c zs.length (zs.map (.int .i64))] k := callL_in l2Nums_sound (c, zs) hpre h

theorem idx_lt {xs zs ps : List Int} (h : tensorOk xs zs = true) (h' : ¬ indexAt xs ps < 0) : placeOk xs ps = true ∧ indexAt xs ps = idxTo xs ps xs.length ∧ 0 ≤ indexAt xs ps ∧ indexAt xs ps < zs.length := by
  obtain ⟨h1, h2, h3⟩ := (tensorOk_iff _ _).1 h
  have hp : placeOk xs ps = true := by
    by_cases hp : placeOk xs ps = true
    · exact hp
    · exfalso; apply h'; unfold indexAt; rw [if_neg hp]; decide
  have e : indexAt xs ps = idxTo xs ps xs.length := if_pos hp
  obtain ⟨p1, p2, p3⟩ := (placeOk_iff _ _).1 hp
  have hr := idx_range h1 (ps := ps) p3 xs.length (Nat.le_refl _)
  rw [e]
  exact ⟨hp, rfl, by omega, by omega⟩
def naM (xs zs ps : List Int) : Int × Bool := if (tensorOk xs zs && placeOk xs ps) = true then (zs.getD (idxTo xs ps xs.length).toNat 0, true) else (0, false)
theorem na_t {xs zs ps : List Int} (h : tensorOk xs zs = true) (h' : placeOk xs ps = true) : naM xs zs ps = (zs.getD (idxTo xs ps xs.length).toNat 0, true) := by unfold naM; rw [if_pos (by rw [h, h']; rfl)]
theorem na_f1 {xs zs ps : List Int} (h : tensorOk xs zs = false) : naM xs zs ps = (0, false) := by unfold naM; rw [if_neg (by rw [h]; exact Bool.false_ne_true)]
theorem na_f2 {xs zs ps : List Int} (h : indexAt xs ps < 0) : naM xs zs ps = (0, false) := by
  unfold naM
  rw [if_neg]
  intro h'
  rw [Bool.and_eq_true] at h'
  obtain ⟨h1, h2⟩ := h'
  have e : indexAt xs ps = idxTo xs ps xs.length := if_pos h2
  obtain ⟨p1, p2, p3⟩ := (placeOk_iff _ _).1 h2
  have hr := idx_range p1 (ps := ps) p3 xs.length (Nat.le_refl _)
  omega
def sNumAt : CSpec := fnIB (ι := Nat × List Int × Nat × List Int × Nat × List Int) (fun | (c, xs, d, zs, e, ps) => [.agg [.sl c xs.length (xs.map (.int .i64)), .sl d zs.length (zs.map (.int .i64))], .sl e ps.length (ps.map (.int .i64))]) (fun _ => True) (fun | (_, xs, _, zs, _, ps) => naM xs zs ps)
theorem tensor_len {xs zs : List Int} (h : tensorOk xs zs = true) : xs.length ≤ 3 ∧ 1 ≤ zs.length ∧ zs.length ≤ 64 := by
  obtain ⟨h1, h2, h3⟩ := (tensorOk_iff _ _).1 h
  have h4 := cnt64 h1 (Nat.le_refl _)
  exact ⟨((shapeOk_iff _).1 h1).1, by omega, by omega⟩
theorem tensor_or (xs zs : List Int) : (tensorOk xs zs = true ∧ xs.length ≤ 3 ∧ 1 ≤ zs.length ∧ zs.length ≤ 64) ∨ tensorOk xs zs = false := by
  cases h : tensorOk xs zs
  · exact .inr rfl
  · exact .inl ⟨rfl, tensor_len h⟩
abbrev nl (v : Nat) : Row := ⟨v, 3, 1, []⟩
abbrev li (v : Nat) (zs : List Int) : Row := ⟨v, 3, 1, zs.map (.int .i64)⟩
abbrev bt (v : Nat) (cells : List AV) : Row := ⟨v, 42, 2, cells⟩
abbrev TM := List Int × List Int × Bool
def noT : TM := ([], [], false)
def negM (xs zs : List Int) : TM := if tensorOk xs zs = true then (xs, zs.map (fun z => -z), true) else noT
theorem neg_t {xs zs : List Int} (h : tensorOk xs zs = true) : negM xs zs = (xs, zs.map (fun z => -z), true) := if_pos h
theorem neg_f {xs zs : List Int} (h : tensorOk xs zs = false) : negM xs zs = noT := if_neg (by rw [h]; exact Bool.false_ne_true)
theorem getD_map {zs : List Int} {f : Int → Int} {j : Nat} (h : j < zs.length) : (zs.map f).getD j 0 = f (zs.getD j 0) := by
  simp [List.getD, List.getElem?_map, List.getElem?_eq_getElem h]
theorem getD_snoc {ws : List Int} {k j : Nat} {z : Int} (hl : ws.length = k) (hj : j < k + 1) : (ws ++ [z]).getD j 0 = if j = k then z else ws.getD j 0 := by
  subst hl
  by_cases e : j = ws.length
  · subst e; simp [List.getD]
  · have : j < ws.length := by omega
    rw [if_neg e]
    simp [List.getD, List.getElem?_append_left this]
def sNegOf : CSpec := fnTB (ι := Nat × List Int × Nat × List Int) 3 (fun | (c, xs, d, zs) => [.agg [.sl c xs.length (xs.map (.int .i64)), .sl d zs.length (zs.map (.int .i64))]]) (fun _ => True) (fun | (_, xs, _, zs) => negM xs zs)
theorem neg_len (xs zs : List Int) : (negM xs zs).1.length ≤ 3 ∧ (negM xs zs).2.1.length ≤ 64 := by
  rcases tensor_or xs zs with ⟨ht, hx, hz⟩ | ht
  · rw [neg_t ht]; exact ⟨hx, by simpa using hz.2⟩
  · rw [neg_f ht]; exact ⟨Nat.zero_le _, Nat.zero_le _⟩
end Go.Proofs.Ytmgggbgejdkamaa

/- Chapter 4: copies of index sums. -/
namespace Go.Proofs.Ytmgggbgejdkamaa
set_option maxRecDepth 20000
open Go.RowKit Go.Am
set_option linter.unusedSimpArgs false
attribute [local irreducible] aPlan aGet aIf aLoop aCall RetB NextB CallB CallG aCut aSet aAppend
theorem take_snoc {fs : List (List Int)} {k : Nat} (h : k < fs.length) : fs.take (k + 1) = fs.take k ++ [fs.getD k []] := by
  rw [List.take_add_one, getD_eq (d := []) h]; rfl
theorem le_snoc4 {t : TypeId} {ss : List (List Int)} {xs : List Int} {u : AV} {p : Prop} : (pureL (((ss.map (ownI t)) ++ [u]).set ss.length (ownI t xs)) = true ∧ (ss ++ [xs]).map (ownI t) = ((ss.map (ownI t)) ++ [u]).set ss.length (ownI t xs)) ∨ p := by
  refine le_cells ?_ (pureL_oi _ _)
  rw [List.set_append_right _ _ (by simp)]
  simp
theorem le_snoc5 {t : TypeId} {fs : List (List Int)} {k : Nat} {u : AV} {p : Prop} (h : k < fs.length) : (pureL (((fs.take k).map (ownI t) ++ [u]).set k (ownI t (fs.getD k []))) = true ∧ (fs.take (k + 1)).map (ownI t) = ((fs.take k).map (ownI t) ++ [u]).set k (ownI t (fs.getD k []))) ∨ p := by
  have e : k = (fs.take k).length := by rw [List.length_take]; omega
  have := le_snoc4 (t := t) (ss := fs.take k) (xs := fs.getD k []) (u := u) (p := p)
  rw [← e] at this
  rwa [take_snoc h]
set_option maxHeartbeats 4000000 in
theorem l4Copy_sound : Sound Try.prog 97 (fnIS (ι := IS) 3 22 (fun | (c, zs, d, fs, e, o) => [.agg [.sl c zs.length (zs.map (.int .i64)), .sl d fs.length (fs.map (slI d)), .sl e o.length (o.map (.int .i64))]]) (fun | (_, zs, _, fs, _, o) => zs.length ≤ 5 ∧ o.length ≤ 3 ∧ fs.length ≤ 4 ∧ ∀ k, k < fs.length → (fs.getD k []).length ≤ 3) (fun | (_, zs, _, fs, _, o) => (zs, fs, o))) := by
  refine sound_of Try.func97 rfl (enters_of Try.func97 (by kernel_rfl) (by kernel_rfl)) ?_
  rintro ⟨c, zs, d, fs, e, o⟩ hpre
  obtain ⟨hz, ho, hf, hk⟩ : zs.length ≤ 5 ∧ o.length ≤ 3 ∧ fs.length ≤ 4 ∧ ∀ k, k < fs.length → (fs.getD k []).length ≤ 3 := hpre
  have hmax : maxLen = 9223372036854775807 := rfl
  conv => whnf
  repeat' (first
    | (refine tree_in (id := 1) (.one 0 (.one 1 (.one 3 (.one 4 (.two 2 7 (.two 5 7 (.two 6 7 (.one 7 (.one 8 .nil)) (.one 6 (.one 8 .nil))) (.one 5 (.one 6 (.one 8 .nil)))) (.one 2 (.one 5 (.one 6 (.one 8 .nil))))))))) (by kernel_rfl) (by kernel_rfl) ?_; conv => whnf)
    | (refine plan_in (id := 5) [0, 1, 2, 3, 4, 5, 6, 7, 8, 9, 10, 11] (by kernel_rfl) (by kernel_rfl) ?_; conv => whnf)
    | (refine fork_in ?_ ?_ <;> conv => whnf)
    | (refine aGet_in rfl ?_; conv => whnf)
    | (refine And.intro rfl (And.intro (List.cons_ne_nil _ _) ?_); conv => whnf)
    | (refine And.intro (Nat.le_of_ble_eq_true rfl) ?_; conv => whnf)
    | (refine l2Nums_call (by omega) ?_; conv => whnf)
    | (refine append_same ?_; conv => whnf)
    | (refine And.intro (pureL_ints _ _) ?_; conv => whnf)
    | (refine set_force ?_; conv => whnf)
    | (refine And.intro (by kernel_rfl) ?_; conv => whnf))
  · refine loop_ut (ι := Nat) [false, true, true, true, true, false, false, false, false, false, false, false, false, false, false, false, false, false, false, false, false, false, false, false, false, false, false, false, false, false, false] (fun k => [(4, .int .i64 k)]) (fun k => [(11, [.ref 5 6 0 zs.length, .ref 7 8 0 k, .ref 6 7 0 o.length]), (7, (fs.take k).map (ownI 3))]) (fun k => k ≤ fs.length) (fun k => fs.length - k) (0) (Nat.zero_le _) ?_ ?_
    · conv => whnf
      refine St.le.to ?_
      conv => whnf
      repeat' (first
        | exact trivial
        | exact rfl
        | exact pureL_ints _ _
        | exact Or.inl (And.intro rfl rfl)
        | exact le_ints rfl
        | exact pureL_ii _ _
        | refine Or.inr ?_
        | refine And.intro ?_ ?_
        | exact Nat.le_of_ble_eq_true rfl)
    · rintro k hk'
      have hk' : k ≤ fs.length := hk'
      have htl : (fs.take k).length = k := by rw [List.length_take]; omega
      by_cases hlt : k < fs.length
      · have h3 := hk k hlt
        conv => whnf
        repeat' (first
          | (refine tree_in (id := 1) (.one 0 (.one 1 (.one 3 (.one 4 (.two 2 7 (.two 5 7 (.two 6 7 (.one 7 (.one 8 .nil)) (.one 6 (.one 8 .nil))) (.one 5 (.one 6 (.one 8 .nil)))) (.one 2 (.one 5 (.one 6 (.one 8 .nil))))))))) (by kernel_rfl) (by kernel_rfl) ?_; conv => whnf)
          | (refine plan_in (id := 5) [0, 1, 2, 3, 4, 5, 6, 7, 8, 9, 10, 11] (by kernel_rfl) (by kernel_rfl) ?_; conv => whnf)
          | (refine fun (_ : _ ≤ maxLen) => ?_; conv => whnf)
          | (refine aGet_in rfl ?_; conv => whnf)
          | (refine And.intro (by omega) ?_; conv => whnf)
          | (refine load_same ?_; conv => whnf)
          | (refine l2Nums_call (by omega) ?_; conv => whnf)
          | (refine append_same ?_; conv => whnf)
          | (refine get_ii_n (by omega) ?_; conv => whnf)
          | (refine takeN_in ?_; conv => whnf)
          | (refine And.intro (pureL_ints _ _) ?_; conv => whnf)
          | (refine set_force ?_; conv => whnf)
          | (refine And.intro (And.intro (by kernel_rfl) (And.intro rfl (Nat.le_of_ble_eq_true rfl))) ?_; conv => whnf)
          | (refine aIf_dec (fun _ => ?_) (fun _ => ?_) <;> conv => whnf))
        all_goals (first | (exfalso; omega) | skip)
        refine append_ll rfl (by rw [List.length_map]; exact htl.symm) rfl rfl (by omega) (Nat.zero_le _) ?_
        conv => whnf
        repeat' (first
          | (refine tree_in (id := 1) (.one 0 (.one 1 (.one 3 (.one 4 (.two 2 7 (.two 5 7 (.two 6 7 (.one 7 (.one 8 .nil)) (.one 6 (.one 8 .nil))) (.one 5 (.one 6 (.one 8 .nil)))) (.one 2 (.one 5 (.one 6 (.one 8 .nil))))))))) (by kernel_rfl) (by kernel_rfl) ?_; conv => whnf)
          | (refine plan_in (id := 5) [0, 1, 2, 3, 4, 5, 6, 7, 8, 9, 10, 11] (by kernel_rfl) (by kernel_rfl) ?_; conv => whnf)
          | (refine And.intro (Nat.le_of_ble_eq_true rfl) ?_; conv => whnf)
          | (refine append_same ?_; conv => whnf)
          | (refine set_force ?_; conv => whnf)
          | (refine And.intro (by kernel_rfl) ?_; conv => whnf))
        refine next_ut (k + 1) (show fs.length - (k + 1) < fs.length - k by omega) (by exact (by omega : k + 1 ≤ fs.length)) ?_
        conv => whnf
        refine to_close 7 k 12 _ _ 1 3 _ _ rfl ((List.getElem?_append_right (by rw [List.length_map]; omega)).trans (by rw [List.length_map, htl, Nat.sub_self]; rfl)) rfl (by decide) (Nat.zero_le _) (by decide) (by simp) ?_
        refine St.le.to ?_
        conv => whnf
        repeat' (first | exact le_snoc5 hlt | refine And.intro ?_ ?_)
        repeat' (first
          | exact trivial
          | exact rfl
          | exact pureL_ints _ _
          | exact Or.inl (And.intro rfl rfl)
          | exact le_ints rfl
          | exact pureL_ii _ _
          | refine Or.inr ?_
          | refine And.intro ?_ ?_
          | exact Nat.le_of_ble_eq_true rfl
          | exact int_eq (by rw [IntWalk.i64_in _ (by omega)] <;> omega))
      · have he : k = fs.length := by omega
        conv => whnf
        repeat' (first
          | (refine tree_in (id := 1) (.one 0 (.one 1 (.one 3 (.one 4 (.two 2 7 (.two 5 7 (.two 6 7 (.one 7 (.one 8 .nil)) (.one 6 (.one 8 .nil))) (.one 5 (.one 6 (.one 8 .nil)))) (.one 2 (.one 5 (.one 6 (.one 8 .nil))))))))) (by kernel_rfl) (by kernel_rfl) ?_; conv => whnf)
          | (refine plan_in (id := 5) [0, 1, 2, 3, 4, 5, 6, 7, 8, 9, 10, 11] (by kernel_rfl) (by kernel_rfl) ?_; conv => whnf)
          | (refine fun (_ : _ ≤ maxLen) => ?_; conv => whnf)
          | (refine aGet_in rfl ?_; conv => whnf)
          | (refine And.intro (by omega) ?_; conv => whnf)
          | (refine load_same ?_; conv => whnf)
          | (refine And.intro (Nat.le_of_ble_eq_true rfl) ?_; conv => whnf)
          | (refine l2Nums_call (by omega) ?_; conv => whnf)
          | (refine append_same ?_; conv => whnf)
          | (refine get_ii_n (by omega) ?_; conv => whnf)
          | (refine takeN_in ?_; conv => whnf)
          | (refine set_force ?_; conv => whnf)
          | (refine And.intro (by kernel_rfl) ?_; conv => whnf)
          | (refine aIf_dec (fun _ => ?_) (fun _ => ?_) <;> conv => whnf))
        all_goals (first | (exfalso; omega) | skip)
        have et : fs.take k = fs := by rw [he, List.take_length]
        rw [et]
        exact retIS rfl (by decide) (by decide) (by decide) rfl rfl rfl rfl he rfl
  · refine loop_ut (ι := Nat) [false, true, true, true, true, false, false, false, false, false, false, false, false, false, false, false, false, false, false, false, false, false, false, false, false, false, false, false, false, false, false] (fun k => [(4, .int .i64 k)]) (fun k => [(10, [.ref 5 6 0 zs.length, .ref 11 12 0 k, .ref 6 7 0 o.length]), (11, (fs.take k).map (ownI 3))]) (fun k => k ≤ fs.length) (fun k => fs.length - k) (0) (Nat.zero_le _) ?_ ?_
    · conv => whnf
      refine St.le.to ?_
      conv => whnf
      repeat' (first
        | exact trivial
        | exact rfl
        | exact pureL_ints _ _
        | exact Or.inl (And.intro rfl rfl)
        | exact le_ints rfl
        | exact pureL_ii _ _
        | refine Or.inr ?_
        | refine And.intro ?_ ?_
        | exact Nat.le_of_ble_eq_true rfl)
    · rintro k hk'
      have hk' : k ≤ fs.length := hk'
      have htl : (fs.take k).length = k := by rw [List.length_take]; omega
      by_cases hlt : k < fs.length
      · have h3 := hk k hlt
        conv => whnf
        repeat' (first
          | (refine tree_in (id := 1) (.one 0 (.one 1 (.one 3 (.one 4 (.two 2 7 (.two 5 7 (.two 6 7 (.one 7 (.one 8 .nil)) (.one 6 (.one 8 .nil))) (.one 5 (.one 6 (.one 8 .nil)))) (.one 2 (.one 5 (.one 6 (.one 8 .nil))))))))) (by kernel_rfl) (by kernel_rfl) ?_; conv => whnf)
          | (refine plan_in (id := 5) [0, 1, 2, 3, 4, 5, 6, 7, 8, 9, 10, 11] (by kernel_rfl) (by kernel_rfl) ?_; conv => whnf)
          | (refine fun (_ : _ ≤ maxLen) => ?_; conv => whnf)
          | (refine aGet_in rfl ?_; conv => whnf)
          | (refine And.intro (by omega) ?_; conv => whnf)
          | (refine load_same ?_; conv => whnf)
          | (refine l2Nums_call (by omega) ?_; conv => whnf)
          | (refine append_same ?_; conv => whnf)
          | (refine get_ii_n (by omega) ?_; conv => whnf)
          | (refine takeN_in ?_; conv => whnf)
          | (refine And.intro (pureL_ints _ _) ?_; conv => whnf)
          | (refine set_force ?_; conv => whnf)
          | (refine And.intro (And.intro (by kernel_rfl) (And.intro rfl (Nat.le_of_ble_eq_true rfl))) ?_; conv => whnf)
          | (refine aIf_dec (fun _ => ?_) (fun _ => ?_) <;> conv => whnf))
        all_goals (first | (exfalso; omega) | skip)
        refine append_ll rfl (by rw [List.length_map]; exact htl.symm) rfl rfl (by omega) (Nat.zero_le _) ?_
        conv => whnf
        repeat' (first
          | (refine tree_in (id := 1) (.one 0 (.one 1 (.one 3 (.one 4 (.two 2 7 (.two 5 7 (.two 6 7 (.one 7 (.one 8 .nil)) (.one 6 (.one 8 .nil))) (.one 5 (.one 6 (.one 8 .nil)))) (.one 2 (.one 5 (.one 6 (.one 8 .nil))))))))) (by kernel_rfl) (by kernel_rfl) ?_; conv => whnf)
          | (refine plan_in (id := 5) [0, 1, 2, 3, 4, 5, 6, 7, 8, 9, 10, 11] (by kernel_rfl) (by kernel_rfl) ?_; conv => whnf)
          | (refine And.intro (Nat.le_of_ble_eq_true rfl) ?_; conv => whnf)
          | (refine append_same ?_; conv => whnf)
          | (refine set_force ?_; conv => whnf)
          | (refine And.intro (by kernel_rfl) ?_; conv => whnf))
        refine next_ut (k + 1) (show fs.length - (k + 1) < fs.length - k by omega) (by exact (by omega : k + 1 ≤ fs.length)) ?_
        conv => whnf
        refine to_close 11 k 12 _ _ 1 3 _ _ rfl ((List.getElem?_append_right (by rw [List.length_map]; omega)).trans (by rw [List.length_map, htl, Nat.sub_self]; rfl)) rfl (by decide) (Nat.zero_le _) (by decide) (by simp) ?_
        refine St.le.to ?_
        conv => whnf
        repeat' (first | exact le_snoc5 hlt | refine And.intro ?_ ?_)
        repeat' (first
          | exact trivial
          | exact rfl
          | exact pureL_ints _ _
          | exact Or.inl (And.intro rfl rfl)
          | exact le_ints rfl
          | exact pureL_ii _ _
          | refine Or.inr ?_
          | refine And.intro ?_ ?_
          | exact Nat.le_of_ble_eq_true rfl
          | exact int_eq (by rw [IntWalk.i64_in _ (by omega)] <;> omega))
      · have he : k = fs.length := by omega
        conv => whnf
        repeat' (first
          | (refine tree_in (id := 1) (.one 0 (.one 1 (.one 3 (.one 4 (.two 2 7 (.two 5 7 (.two 6 7 (.one 7 (.one 8 .nil)) (.one 6 (.one 8 .nil))) (.one 5 (.one 6 (.one 8 .nil)))) (.one 2 (.one 5 (.one 6 (.one 8 .nil))))))))) (by kernel_rfl) (by kernel_rfl) ?_; conv => whnf)
          | (refine plan_in (id := 5) [0, 1, 2, 3, 4, 5, 6, 7, 8, 9, 10, 11] (by kernel_rfl) (by kernel_rfl) ?_; conv => whnf)
          | (refine fun (_ : _ ≤ maxLen) => ?_; conv => whnf)
          | (refine aGet_in rfl ?_; conv => whnf)
          | (refine And.intro (by omega) ?_; conv => whnf)
          | (refine load_same ?_; conv => whnf)
          | (refine And.intro (Nat.le_of_ble_eq_true rfl) ?_; conv => whnf)
          | (refine l2Nums_call (by omega) ?_; conv => whnf)
          | (refine append_same ?_; conv => whnf)
          | (refine get_ii_n (by omega) ?_; conv => whnf)
          | (refine takeN_in ?_; conv => whnf)
          | (refine set_force ?_; conv => whnf)
          | (refine And.intro (by kernel_rfl) ?_; conv => whnf)
          | (refine aIf_dec (fun _ => ?_) (fun _ => ?_) <;> conv => whnf))
        all_goals (first | (exfalso; omega) | skip)
        have et : fs.take k = fs := by rw [he, List.take_length]
        rw [et]
        exact retIS rfl (by decide) (by decide) (by decide) rfl rfl rfl rfl he rfl
  · refine loop_ut (ι := Nat) [false, true, true, true, true, false, false, false, false, false, false, false, false, false, false, false, false, false, false, false, false, false, false, false, false, false, false, false, false, false, false] (fun k => [(4, .int .i64 k)]) (fun k => [(9, [.ref 5 6 0 zs.length, .ref 11 12 0 k, .ref 10 11 0 o.length]), (11, (fs.take k).map (ownI 3))]) (fun k => k ≤ fs.length) (fun k => fs.length - k) (0) (Nat.zero_le _) ?_ ?_
    · conv => whnf
      refine St.le.to ?_
      conv => whnf
      repeat' (first
        | exact trivial
        | exact rfl
        | exact pureL_ints _ _
        | exact Or.inl (And.intro rfl rfl)
        | exact le_ints rfl
        | exact pureL_ii _ _
        | refine Or.inr ?_
        | refine And.intro ?_ ?_
        | exact Nat.le_of_ble_eq_true rfl)
    · rintro k hk'
      have hk' : k ≤ fs.length := hk'
      have htl : (fs.take k).length = k := by rw [List.length_take]; omega
      by_cases hlt : k < fs.length
      · have h3 := hk k hlt
        conv => whnf
        repeat' (first
          | (refine tree_in (id := 1) (.one 0 (.one 1 (.one 3 (.one 4 (.two 2 7 (.two 5 7 (.two 6 7 (.one 7 (.one 8 .nil)) (.one 6 (.one 8 .nil))) (.one 5 (.one 6 (.one 8 .nil)))) (.one 2 (.one 5 (.one 6 (.one 8 .nil))))))))) (by kernel_rfl) (by kernel_rfl) ?_; conv => whnf)
          | (refine plan_in (id := 5) [0, 1, 2, 3, 4, 5, 6, 7, 8, 9, 10, 11] (by kernel_rfl) (by kernel_rfl) ?_; conv => whnf)
          | (refine fun (_ : _ ≤ maxLen) => ?_; conv => whnf)
          | (refine aGet_in rfl ?_; conv => whnf)
          | (refine And.intro (by omega) ?_; conv => whnf)
          | (refine load_same ?_; conv => whnf)
          | (refine l2Nums_call (by omega) ?_; conv => whnf)
          | (refine append_same ?_; conv => whnf)
          | (refine get_ii_n (by omega) ?_; conv => whnf)
          | (refine takeN_in ?_; conv => whnf)
          | (refine And.intro (pureL_ints _ _) ?_; conv => whnf)
          | (refine set_force ?_; conv => whnf)
          | (refine And.intro (And.intro (by kernel_rfl) (And.intro rfl (Nat.le_of_ble_eq_true rfl))) ?_; conv => whnf)
          | (refine aIf_dec (fun _ => ?_) (fun _ => ?_) <;> conv => whnf))
        all_goals (first | (exfalso; omega) | skip)
        refine append_ll rfl (by rw [List.length_map]; exact htl.symm) rfl rfl (by omega) (Nat.zero_le _) ?_
        conv => whnf
        repeat' (first
          | (refine tree_in (id := 1) (.one 0 (.one 1 (.one 3 (.one 4 (.two 2 7 (.two 5 7 (.two 6 7 (.one 7 (.one 8 .nil)) (.one 6 (.one 8 .nil))) (.one 5 (.one 6 (.one 8 .nil)))) (.one 2 (.one 5 (.one 6 (.one 8 .nil))))))))) (by kernel_rfl) (by kernel_rfl) ?_; conv => whnf)
          | (refine plan_in (id := 5) [0, 1, 2, 3, 4, 5, 6, 7, 8, 9, 10, 11] (by kernel_rfl) (by kernel_rfl) ?_; conv => whnf)
          | (refine And.intro (Nat.le_of_ble_eq_true rfl) ?_; conv => whnf)
          | (refine append_same ?_; conv => whnf)
          | (refine set_force ?_; conv => whnf)
          | (refine And.intro (by kernel_rfl) ?_; conv => whnf))
        refine next_ut (k + 1) (show fs.length - (k + 1) < fs.length - k by omega) (by exact (by omega : k + 1 ≤ fs.length)) ?_
        conv => whnf
        refine to_close 11 k 12 _ _ 1 3 _ _ rfl ((List.getElem?_append_right (by rw [List.length_map]; omega)).trans (by rw [List.length_map, htl, Nat.sub_self]; rfl)) rfl (by decide) (Nat.zero_le _) (by decide) (by simp) ?_
        refine St.le.to ?_
        conv => whnf
        repeat' (first | exact le_snoc5 hlt | refine And.intro ?_ ?_)
        repeat' (first
          | exact trivial
          | exact rfl
          | exact pureL_ints _ _
          | exact Or.inl (And.intro rfl rfl)
          | exact le_ints rfl
          | exact pureL_ii _ _
          | refine Or.inr ?_
          | refine And.intro ?_ ?_
          | exact Nat.le_of_ble_eq_true rfl
          | exact int_eq (by rw [IntWalk.i64_in _ (by omega)] <;> omega))
      · have he : k = fs.length := by omega
        conv => whnf
        repeat' (first
          | (refine tree_in (id := 1) (.one 0 (.one 1 (.one 3 (.one 4 (.two 2 7 (.two 5 7 (.two 6 7 (.one 7 (.one 8 .nil)) (.one 6 (.one 8 .nil))) (.one 5 (.one 6 (.one 8 .nil)))) (.one 2 (.one 5 (.one 6 (.one 8 .nil))))))))) (by kernel_rfl) (by kernel_rfl) ?_; conv => whnf)
          | (refine plan_in (id := 5) [0, 1, 2, 3, 4, 5, 6, 7, 8, 9, 10, 11] (by kernel_rfl) (by kernel_rfl) ?_; conv => whnf)
          | (refine fun (_ : _ ≤ maxLen) => ?_; conv => whnf)
          | (refine aGet_in rfl ?_; conv => whnf)
          | (refine And.intro (by omega) ?_; conv => whnf)
          | (refine load_same ?_; conv => whnf)
          | (refine And.intro (Nat.le_of_ble_eq_true rfl) ?_; conv => whnf)
          | (refine l2Nums_call (by omega) ?_; conv => whnf)
          | (refine append_same ?_; conv => whnf)
          | (refine get_ii_n (by omega) ?_; conv => whnf)
          | (refine takeN_in ?_; conv => whnf)
          | (refine set_force ?_; conv => whnf)
          | (refine And.intro (by kernel_rfl) ?_; conv => whnf)
          | (refine aIf_dec (fun _ => ?_) (fun _ => ?_) <;> conv => whnf))
        all_goals (first | (exfalso; omega) | skip)
        have et : fs.take k = fs := by rw [he, List.take_length]
        rw [et]
        exact retIS rfl (by decide) (by decide) (by decide) rfl rfl rfl rfl he rfl
  · refine loop_ut (ι := Nat) [false, true, true, true, true, false, false, false, false, false, false, false, false, false, false, false, false, false, false, false, false, false, false, false, false, false, false, false, false, false, false] (fun k => [(4, .int .i64 k)]) (fun k => [(8, [.ref 9 10 0 zs.length, .ref 11 12 0 k, .ref 10 11 0 o.length]), (11, (fs.take k).map (ownI 3))]) (fun k => k ≤ fs.length) (fun k => fs.length - k) (0) (Nat.zero_le _) ?_ ?_
    · conv => whnf
      refine St.le.to ?_
      conv => whnf
      repeat' (first
        | exact trivial
        | exact rfl
        | exact pureL_ints _ _
        | exact Or.inl (And.intro rfl rfl)
        | exact le_ints rfl
        | exact pureL_ii _ _
        | refine Or.inr ?_
        | refine And.intro ?_ ?_
        | exact Nat.le_of_ble_eq_true rfl)
    · rintro k hk'
      have hk' : k ≤ fs.length := hk'
      have htl : (fs.take k).length = k := by rw [List.length_take]; omega
      by_cases hlt : k < fs.length
      · have h3 := hk k hlt
        conv => whnf
        repeat' (first
          | (refine tree_in (id := 1) (.one 0 (.one 1 (.one 3 (.one 4 (.two 2 7 (.two 5 7 (.two 6 7 (.one 7 (.one 8 .nil)) (.one 6 (.one 8 .nil))) (.one 5 (.one 6 (.one 8 .nil)))) (.one 2 (.one 5 (.one 6 (.one 8 .nil))))))))) (by kernel_rfl) (by kernel_rfl) ?_; conv => whnf)
          | (refine plan_in (id := 5) [0, 1, 2, 3, 4, 5, 6, 7, 8, 9, 10, 11] (by kernel_rfl) (by kernel_rfl) ?_; conv => whnf)
          | (refine fun (_ : _ ≤ maxLen) => ?_; conv => whnf)
          | (refine aGet_in rfl ?_; conv => whnf)
          | (refine And.intro (by omega) ?_; conv => whnf)
          | (refine load_same ?_; conv => whnf)
          | (refine l2Nums_call (by omega) ?_; conv => whnf)
          | (refine append_same ?_; conv => whnf)
          | (refine get_ii_n (by omega) ?_; conv => whnf)
          | (refine takeN_in ?_; conv => whnf)
          | (refine And.intro (pureL_ints _ _) ?_; conv => whnf)
          | (refine set_force ?_; conv => whnf)
          | (refine And.intro (And.intro (by kernel_rfl) (And.intro rfl (Nat.le_of_ble_eq_true rfl))) ?_; conv => whnf)
          | (refine aIf_dec (fun _ => ?_) (fun _ => ?_) <;> conv => whnf))
        all_goals (first | (exfalso; omega) | skip)
        refine append_ll rfl (by rw [List.length_map]; exact htl.symm) rfl rfl (by omega) (Nat.zero_le _) ?_
        conv => whnf
        repeat' (first
          | (refine tree_in (id := 1) (.one 0 (.one 1 (.one 3 (.one 4 (.two 2 7 (.two 5 7 (.two 6 7 (.one 7 (.one 8 .nil)) (.one 6 (.one 8 .nil))) (.one 5 (.one 6 (.one 8 .nil)))) (.one 2 (.one 5 (.one 6 (.one 8 .nil))))))))) (by kernel_rfl) (by kernel_rfl) ?_; conv => whnf)
          | (refine plan_in (id := 5) [0, 1, 2, 3, 4, 5, 6, 7, 8, 9, 10, 11] (by kernel_rfl) (by kernel_rfl) ?_; conv => whnf)
          | (refine And.intro (Nat.le_of_ble_eq_true rfl) ?_; conv => whnf)
          | (refine append_same ?_; conv => whnf)
          | (refine set_force ?_; conv => whnf)
          | (refine And.intro (by kernel_rfl) ?_; conv => whnf))
        refine next_ut (k + 1) (show fs.length - (k + 1) < fs.length - k by omega) (by exact (by omega : k + 1 ≤ fs.length)) ?_
        conv => whnf
        refine to_close 11 k 12 _ _ 1 3 _ _ rfl ((List.getElem?_append_right (by rw [List.length_map]; omega)).trans (by rw [List.length_map, htl, Nat.sub_self]; rfl)) rfl (by decide) (Nat.zero_le _) (by decide) (by simp) ?_
        refine St.le.to ?_
        conv => whnf
        repeat' (first | exact le_snoc5 hlt | refine And.intro ?_ ?_)
        repeat' (first
          | exact trivial
          | exact rfl
          | exact pureL_ints _ _
          | exact Or.inl (And.intro rfl rfl)
          | exact le_ints rfl
          | exact pureL_ii _ _
          | refine Or.inr ?_
          | refine And.intro ?_ ?_
          | exact Nat.le_of_ble_eq_true rfl
          | exact int_eq (by rw [IntWalk.i64_in _ (by omega)] <;> omega))
      · have he : k = fs.length := by omega
        conv => whnf
        repeat' (first
          | (refine tree_in (id := 1) (.one 0 (.one 1 (.one 3 (.one 4 (.two 2 7 (.two 5 7 (.two 6 7 (.one 7 (.one 8 .nil)) (.one 6 (.one 8 .nil))) (.one 5 (.one 6 (.one 8 .nil)))) (.one 2 (.one 5 (.one 6 (.one 8 .nil))))))))) (by kernel_rfl) (by kernel_rfl) ?_; conv => whnf)
          | (refine plan_in (id := 5) [0, 1, 2, 3, 4, 5, 6, 7, 8, 9, 10, 11] (by kernel_rfl) (by kernel_rfl) ?_; conv => whnf)
          | (refine fun (_ : _ ≤ maxLen) => ?_; conv => whnf)
          | (refine aGet_in rfl ?_; conv => whnf)
          | (refine And.intro (by omega) ?_; conv => whnf)
          | (refine load_same ?_; conv => whnf)
          | (refine And.intro (Nat.le_of_ble_eq_true rfl) ?_; conv => whnf)
          | (refine l2Nums_call (by omega) ?_; conv => whnf)
          | (refine append_same ?_; conv => whnf)
          | (refine get_ii_n (by omega) ?_; conv => whnf)
          | (refine takeN_in ?_; conv => whnf)
          | (refine set_force ?_; conv => whnf)
          | (refine And.intro (by kernel_rfl) ?_; conv => whnf)
          | (refine aIf_dec (fun _ => ?_) (fun _ => ?_) <;> conv => whnf))
        all_goals (first | (exfalso; omega) | skip)
        have et : fs.take k = fs := by rw [he, List.take_length]
        rw [et]
        exact retIS rfl (by decide) (by decide) (by decide) rfl rfl rfl rfl he rfl
end Go.Proofs.Ytmgggbgejdkamaa

/- Chapter 5: what the program's MergeOf stands on: all but two, letters that are left. -/
namespace Go.Proofs.Ytmgggbgejdkamaa
set_option maxRecDepth 20000
open Go.RowKit Go.Am
set_option linter.unusedSimpArgs false
attribute [local irreducible] aPlan aGet aIf aLoop aCall RetB NextB CallB CallG aCut aSet aAppend
/-- Indexes but two. -/
def abTo (a b : Int) : Nat → List Int
  | 0 => []
  | k + 1 => if (k : Int) ≠ a ∧ (k : Int) ≠ b then abTo a b k ++ [(k : Int)] else abTo a b k
theorem abTo_t {a b : Int} {k : Nat} (h : (k : Int) ≠ a ∧ (k : Int) ≠ b) : abTo a b (k + 1) = abTo a b k ++ [(k : Int)] := if_pos h
theorem abTo_f {a b : Int} {k : Nat} (h : ¬ ((k : Int) ≠ a ∧ (k : Int) ≠ b)) : abTo a b (k + 1) = abTo a b k := if_neg h
theorem abTo_len (a b : Int) : ∀ n, (abTo a b n).length ≤ n
  | 0 => Nat.le_refl _
  | n + 1 => by
    have := abTo_len a b n
    by_cases h : (n : Int) ≠ a ∧ (n : Int) ≠ b
    · rw [abTo_t h, List.length_append]; simp; omega
    · rw [abTo_f h]; omega
theorem abTo_mem {a b l : Int} : ∀ n, l ∈ abTo a b n → (0 ≤ l ∧ l < (n : Int)) ∧ l ≠ a ∧ l ≠ b
  | 0, h => by cases h
  | n + 1, h => by
    by_cases hc : (n : Int) ≠ a ∧ (n : Int) ≠ b
    · rw [abTo_t hc] at h
      rcases List.mem_append.1 h with h | h
      · have := abTo_mem n h; omega
      · rw [List.mem_singleton.1 h]; exact ⟨by omega, hc⟩
    · rw [abTo_f hc] at h
      have := abTo_mem n h; omega
theorem abTo_in {a b : Int} {n j : Nat} (h : j < (abTo a b n).length) : (0 ≤ (abTo a b n).getD j 0 ∧ (abTo a b n).getD j 0 < (n : Int)) ∧ (abTo a b n).getD j 0 ≠ a ∧ (abTo a b n).getD j 0 ≠ b := abTo_mem n (mem_getD h)
theorem abTo_oth (fs : List (List Int)) (a b : Int) : ∀ n, (abTo a b n).map (fun i => fs.getD i.toNat []) = othTo fs a b n
  | 0 => rfl
  | n + 1 => by
    by_cases hc : (n : Int) ≠ a ∧ (n : Int) ≠ b
    · rw [abTo_t hc, othTo_t hc, List.map_append, abTo_oth fs a b n]; simp
    · rw [abTo_f hc, othTo_f hc, abTo_oth fs a b n]
theorem allBut_sound : Sound Try.prog 72 (fnL (ι := Nat × Int × Int) 3 (fun | (n, a, b) => [.int .i64 n, .int .i64 a, .int .i64 b]) (fun | (n, _, _) => n ≤ 1000) (fun | (n, a, b) => abTo a b n)) := by
  refine sound_of Try.func72 rfl (enters_of Try.func72 (by kernel_rfl) (by kernel_rfl)) ?_
  rintro ⟨n, a, b⟩ hpre
  have hpre : n ≤ 1000 := hpre
  have hmax : maxLen = 9223372036854775807 := rfl
  conv => whnf
  repeat' (first
    | (refine append_same ?_; conv => whnf)
    | (refine And.intro (And.intro (by kernel_rfl) (And.intro rfl (Nat.le_of_ble_eq_true rfl))) ?_; conv => whnf))
  refine loop_u (ι := Nat) [false, true, true, false, false, false, false, true, false, false, true, true, false, false, false, false, false, false, false, false, false, false, false, false, false, false, false, false] (fun k => [(7, .ref 1 2 0 (abTo a b k).length), (11, .int .i64 k)]) (fun k => [(1, (abTo a b k).map (.int .i64))]) (fun k => k ≤ n) (fun k => n - k) (0) (Nat.zero_le _) ?_ ?_
  · conv => whnf
    repeat' (first
      | exact trivial
      | exact rfl
      | exact Or.inl (And.intro rfl rfl)
      | refine And.intro ?_ ?_
      | exact Nat.le_of_ble_eq_true rfl)
  · rintro k hk
    have hk : k ≤ n := hk
    have hal := abTo_len a b k
    by_cases hlt : k < n
    · by_cases ha : (k : Int) = a
      · have e := abTo_f (a := a) (b := b) (k := k) (fun h => h.1 ha)
        conv => whnf
        repeat' (first
          | (refine aIf_t ?_; conv => whnf)
          | (refine aIf_f ?_; conv => whnf)
          | (refine And.intro (by omega) ?_; conv => whnf)
          | (refine append_same ?_; conv => whnf)
          | (refine append_int rfl rfl (by first | rfl | (simp only [List.length_take, turned_length]; omega)) (by omega) (Nat.le_of_ble_eq_true rfl) ?_; conv => whnf)
          | refine aIf_eqt ?_
          | refine aIf_not ?_
          | (refine aIf_dec (fun _ => ?_) (fun _ => ?_) <;> conv => whnf))
        all_goals (first | (exfalso; omega) | contradiction | skip)
        refine next_u (k + 1) (show n - (k + 1) < n - k by omega) (by exact (by omega : k + 1 ≤ n)) ?_
        rw [e]
        conv => whnf
        repeat' (first
          | exact trivial
          | exact rfl
          | exact Or.inl (And.intro rfl rfl)
          | exact le_ints rfl
          | refine And.intro ?_ ?_
          | exact Nat.le_of_ble_eq_true rfl
          | exact int_eq (by rw [IntWalk.i64_in _ (by omega)] <;> omega))
      · by_cases hb : (k : Int) = b
        · have e := abTo_f (a := a) (b := b) (k := k) (fun h => h.2 hb)
          conv => whnf
          repeat' (first
            | (refine aIf_t ?_; conv => whnf)
            | (refine aIf_f ?_; conv => whnf)
            | (refine And.intro (by omega) ?_; conv => whnf)
            | (refine append_same ?_; conv => whnf)
            | (refine append_int rfl rfl (by first | rfl | (simp only [List.length_take, turned_length]; omega)) (by omega) (Nat.le_of_ble_eq_true rfl) ?_; conv => whnf)
            | refine aIf_eqt ?_
            | refine aIf_not ?_
            | (refine aIf_dec (fun _ => ?_) (fun _ => ?_) <;> conv => whnf))
          all_goals (first | (exfalso; omega) | contradiction | skip)
          refine next_u (k + 1) (show n - (k + 1) < n - k by omega) (by exact (by omega : k + 1 ≤ n)) ?_
          rw [e]
          conv => whnf
          repeat' (first
            | exact trivial
            | exact rfl
            | exact Or.inl (And.intro rfl rfl)
            | exact le_ints rfl
            | refine And.intro ?_ ?_
            | exact Nat.le_of_ble_eq_true rfl
            | exact int_eq (by rw [IntWalk.i64_in _ (by omega)] <;> omega))
        · have e := abTo_t (a := a) (b := b) (k := k) ⟨ha, hb⟩
          conv => whnf
          repeat' (first
            | (refine aIf_t ?_; conv => whnf)
            | (refine aIf_f ?_; conv => whnf)
            | (refine append_same ?_; conv => whnf)
            | (refine append_int rfl rfl (by first | rfl | (simp only [List.length_take, turned_length]; omega)) (by omega) (Nat.le_of_ble_eq_true rfl) ?_; conv => whnf)
            | (refine And.intro (And.intro (by kernel_rfl) (And.intro rfl (Nat.le_of_ble_eq_true rfl))) ?_; conv => whnf)
            | refine aIf_eqt ?_
            | refine aIf_not ?_
            | (refine aIf_dec (fun _ => ?_) (fun _ => ?_) <;> conv => whnf))
          all_goals (first | (exfalso; omega) | contradiction | skip)
          refine next_u (k + 1) (show n - (k + 1) < n - k by omega) (by exact (by omega : k + 1 ≤ n)) ?_
          rw [e]
          conv => whnf
          repeat' (first
            | exact trivial
            | exact rfl
            | exact Or.inl (And.intro rfl rfl)
            | exact le_ints rfl
            | refine And.intro ?_ ?_
            | exact Nat.le_of_ble_eq_true rfl
            | exact List.length_append
            | exact int_eq (by rw [IntWalk.i64_in _ (by omega)] <;> omega))
    · have he : k = n := by omega
      subst he
      conv => whnf
      repeat' (first
        | (refine aIf_t ?_; conv => whnf)
        | (refine aIf_f ?_; conv => whnf)
        | (refine And.intro (by omega) ?_; conv => whnf)
        | (refine append_same ?_; conv => whnf)
        | (refine append_int rfl rfl (by first | rfl | (simp only [List.length_take, turned_length]; omega)) (by omega) (Nat.le_of_ble_eq_true rfl) ?_; conv => whnf)
        | refine aIf_eqt ?_
        | refine aIf_not ?_
        | (refine aIf_dec (fun _ => ?_) (fun _ => ?_) <;> conv => whnf))
      all_goals (first | (exfalso; omega) | contradiction | skip)
      exact retL rfl rfl rfl rfl
theorem allBut_call {n : Nat} {a b : Int} {env : List AV} {rows : List Row} {ctr low : Nat} {k : AV → St → Prop} (hpre : n ≤ 1000) (h : k (.ref rows.length ctr 0 (abTo a b n).length) ⟨env, rows ++ [⟨ctr, 3, 1, (abTo a b n).map (.int .i64)⟩], ctr + 1, low⟩) :
    CallB Try.prog 72 ⟨env, rows, ctr, low⟩ [.int .i64 n, .int .i64 a, .int .i64 b] k := callL_in allBut_sound (n, a, b) hpre h
/-- Letters that are left: of both, and of others or of what comes. -/
def llP (fs gs : List (List Int)) (o : List Int) (l : Int) : Prop := (usedP gs l ∨ usedP [o] l) ∧ usedP fs l
instance (fs gs : List (List Int)) (o : List Int) (l : Int) : Decidable (llP fs gs o l) := by unfold llP; infer_instance
def llTo (fs gs : List (List Int)) (o : List Int) : Nat → List Int
  | 0 => []
  | i + 1 => if llP fs gs o i then llTo fs gs o i ++ [(i : Int)] else llTo fs gs o i
theorem llTo_t {fs gs : List (List Int)} {o : List Int} {i : Nat} (h : llP fs gs o i) : llTo fs gs o (i + 1) = llTo fs gs o i ++ [(i : Int)] := if_pos h
theorem llTo_f {fs gs : List (List Int)} {o : List Int} {i : Nat} (h : ¬ llP fs gs o i) : llTo fs gs o (i + 1) = llTo fs gs o i := if_neg h
theorem llTo_len (fs gs : List (List Int)) (o : List Int) : ∀ n, (llTo fs gs o n).length ≤ n
  | 0 => Nat.le_refl _
  | n + 1 => by
    have := llTo_len fs gs o n
    by_cases h : llP fs gs o n
    · rw [llTo_t h, List.length_append]; simp; omega
    · rw [llTo_f h]; omega
theorem used_one (o : List Int) (l : Int) : usedP [o] l ↔ l ∈ o := by
  unfold usedP
  constructor
  · rintro ⟨f, hf, hl⟩; rw [List.mem_singleton.1 hf] at hl; exact hl
  · exact fun h => ⟨o, List.mem_singleton.2 rfl, h⟩
theorem used_two (f g : List Int) (l : Int) : usedP [f, g] l ↔ l ∈ f ∨ l ∈ g := by
  unfold usedP
  constructor
  · rintro ⟨x, hx, hl⟩
    rcases List.mem_cons.1 hx with rfl | hx
    · exact .inl hl
    · rw [List.mem_singleton.1 hx] at hl; exact .inr hl
  · rintro (h | h)
    · exact ⟨f, List.mem_cons_self, h⟩
    · exact ⟨g, List.mem_cons_of_mem _ (List.mem_singleton.2 rfl), h⟩
theorem llP_lf (fs : List (List Int)) (o : List Int) (a b l : Int) : llP [fs.getD a.toNat [], fs.getD b.toNat []] (oth fs a b) o l ↔ lfP fs o a b l := by
  unfold llP lfP
  rw [used_one, used_two]
  have e : usedP (oth fs a b) l ↔ ∃ k, k < fs.length ∧ ((k : Int) ≠ a ∧ (k : Int) ≠ b) ∧ l ∈ fs.getD k [] := by
    unfold usedP oth
    constructor
    · rintro ⟨f, hf, hl⟩
      obtain ⟨k, h1, h2, rfl⟩ := (othTo_mem _).1 hf
      exact ⟨k, h1, h2, hl⟩
    · rintro ⟨k, h1, h2, h3⟩
      exact ⟨_, (othTo_mem _).2 ⟨k, h1, h2, rfl⟩, h3⟩
  rw [e]
  constructor
  · rintro ⟨h1, h2⟩; exact ⟨h2, h1.symm⟩
  · rintro ⟨h1, h2⟩; exact ⟨h2.symm, h1⟩
theorem llTo_lf (fs : List (List Int)) (o : List Int) (a b : Int) : ∀ n, llTo [fs.getD a.toNat [], fs.getD b.toNat []] (oth fs a b) o n = lfTo fs o a b n
  | 0 => rfl
  | n + 1 => by
    by_cases h : lfP fs o a b n
    · rw [lfTo_t h, llTo_t ((llP_lf fs o a b n).2 h), llTo_lf fs o a b n]
    · rw [lfTo_f h, llTo_f (fun h' => h ((llP_lf fs o a b n).1 h')), llTo_lf fs o a b n]
set_option maxHeartbeats 4000000 in
theorem lettersLeft_sound : Sound Try.prog 73 (fnL (ι := IS × Nat × ML × Nat × ML) 3 (fun | ((c, zs, d, fs, e, o), g, M, g', M') => [.agg [.sl c zs.length (zs.map (.int .i64)), .sl d fs.length (fs.map (slI d)), .sl e o.length (o.map (.int .i64))], .sl g M.length (M.map mlC), .sl g' M'.length (M'.map mlC)]) (fun | ((_, zs, _), _) => zs.length ≤ 5) (fun | ((_, zs, _, _, _, o), _, M, _, M') => llTo (M.map Prod.snd) (M'.map Prod.snd) o zs.length)) := by
  refine sound_of Try.func73 rfl (enters_of Try.func73 (by kernel_rfl) (by kernel_rfl)) ?_
  rintro ⟨⟨c, zs, d, fs, q, o⟩, g, M, g', M'⟩ hpre
  have hpre : zs.length ≤ 5 := hpre
  have hmax : maxLen = 9223372036854775807 := rfl
  conv => whnf
  repeat' (first
    | (refine fun (_ : _ ≤ maxLen) => ?_; conv => whnf)
    | (refine aGet_in rfl ?_; conv => whnf)
    | (refine And.intro rfl (And.intro (List.cons_ne_nil _ _) ?_); conv => whnf)
    | (refine append_same ?_; conv => whnf)
    | (refine And.intro (And.intro (by kernel_rfl) (And.intro rfl (Nat.le_of_ble_eq_true rfl))) ?_; conv => whnf))
  refine loop_u (ι := Nat) [false, true, true, true, false, false, false, true, false, false, false, false, false, true, true, false, false, false, false, false, false, false, false, false, false, false, false, false, false, false, false, false, false, false, false, false, false, false, false] (fun k => [(7, .ref 2 3 0 (llTo (M.map Prod.snd) (M'.map Prod.snd) o k).length), (14, .int .i64 k)]) (fun k => [(2, (llTo (M.map Prod.snd) (M'.map Prod.snd) o k).map (.int .i64))]) (fun k => k ≤ zs.length) (fun k => zs.length - k) (0) (Nat.zero_le _) ?_ ?_
  · conv => whnf
    repeat' (first
      | exact trivial
      | exact rfl
      | exact pureL_ints _ _
      | exact Or.inl (And.intro rfl rfl)
      | exact pureL_ii _ _
      | exact pureL_ml _
      | refine Or.inr ?_
      | refine And.intro ?_ ?_
      | exact Nat.le_of_ble_eq_true rfl)
  · rintro k hk
    have hk : k ≤ zs.length := hk
    have hal := llTo_len (M.map Prod.snd) (M'.map Prod.snd) o k
    by_cases hlt : k < zs.length
    · have hone := used_one o k
      by_cases h1 : usedP (M'.map Prod.snd) k
      · by_cases h3 : usedP (M.map Prod.snd) k
        · have e := llTo_t (fs := M.map Prod.snd) (gs := M'.map Prod.snd) (o := o) (i := k) ⟨.inl h1, h3⟩
          conv => whnf
          repeat' (first
            | (refine aIf_t ?_; conv => whnf)
            | (refine aIf_f ?_; conv => whnf)
            | (refine aGet_in rfl ?_; conv => whnf)
            | (refine callG_t ?_; conv => whnf)
            | (refine append_same ?_; conv => whnf)
            | (refine And.intro (pureL_ml _) ?_; conv => whnf)
            | (refine letterTaken_callM ?_; conv => whnf)
            | (refine append_int rfl rfl (by first | rfl | (simp only [List.length_take, turned_length]; omega)) (by omega) (Nat.le_of_ble_eq_true rfl) ?_; conv => whnf)
            | (refine And.intro (And.intro (by kernel_rfl) (And.intro rfl (Nat.le_of_ble_eq_true rfl))) ?_; conv => whnf)
            | refine aIf_eqf ?_
            | (refine aIf_dec (fun _ => ?_) (fun _ => ?_) <;> conv => whnf))
          all_goals (first | (exfalso; omega) | contradiction | skip)
          refine next_u (k + 1) (show zs.length - (k + 1) < zs.length - k by omega) (by exact (by omega : k + 1 ≤ zs.length)) ?_
          rw [e]
          conv => whnf
          repeat' (first
            | exact trivial
            | exact rfl
            | exact pureL_ints _ _
            | exact Or.inl (And.intro rfl rfl)
            | exact le_ints rfl
            | exact pureL_ii _ _
            | exact pureL_ml _
            | refine Or.inr ?_
            | refine And.intro ?_ ?_
            | exact Nat.le_of_ble_eq_true rfl
            | exact List.length_append
            | exact int_eq (by rw [IntWalk.i64_in _ (by omega)] <;> omega))
        · have e := llTo_f (fs := M.map Prod.snd) (gs := M'.map Prod.snd) (o := o) (i := k) (fun h => h3 h.2)
          conv => whnf
          repeat' (first
            | (refine aIf_t ?_; conv => whnf)
            | (refine aIf_f ?_; conv => whnf)
            | (refine aGet_in rfl ?_; conv => whnf)
            | (refine callG_t ?_; conv => whnf)
            | (refine append_same ?_; conv => whnf)
            | (refine And.intro (pureL_ml _) ?_; conv => whnf)
            | (refine letterTaken_callM ?_; conv => whnf)
            | (refine append_int rfl rfl (by first | rfl | (simp only [List.length_take, turned_length]; omega)) (by omega) (Nat.le_of_ble_eq_true rfl) ?_; conv => whnf)
            | (refine And.intro (And.intro (by kernel_rfl) (And.intro rfl (Nat.le_of_ble_eq_true rfl))) ?_; conv => whnf)
            | refine aIf_eqf ?_
            | (refine aIf_dec (fun _ => ?_) (fun _ => ?_) <;> conv => whnf))
          all_goals (first | (exfalso; omega) | contradiction | skip)
          refine next_u (k + 1) (show zs.length - (k + 1) < zs.length - k by omega) (by exact (by omega : k + 1 ≤ zs.length)) ?_
          rw [e]
          conv => whnf
          repeat' (first
            | exact trivial
            | exact rfl
            | exact pureL_ints _ _
            | exact Or.inl (And.intro rfl rfl)
            | exact le_ints rfl
            | exact pureL_ii _ _
            | exact pureL_ml _
            | refine Or.inr ?_
            | refine And.intro ?_ ?_
            | exact Nat.le_of_ble_eq_true rfl
            | exact int_eq (by rw [IntWalk.i64_in _ (by omega)] <;> omega))
      · have hone := used_one o k
        by_cases h2 : usedP [o] k
        · by_cases h3 : usedP (M.map Prod.snd) k
          · have e := llTo_t (fs := M.map Prod.snd) (gs := M'.map Prod.snd) (o := o) (i := k) ⟨.inr h2, h3⟩
            conv => whnf
            repeat' (first
              | (refine aIf_t ?_; conv => whnf)
              | (refine aIf_f ?_; conv => whnf)
              | (refine aGet_in rfl ?_; conv => whnf)
              | (refine callG_t ?_; conv => whnf)
              | (refine append_same ?_; conv => whnf)
              | (refine And.intro (pureL_ml _) ?_; conv => whnf)
              | (refine letterTaken_callM ?_; conv => whnf)
              | (refine append_int rfl rfl (by first | rfl | (simp only [List.length_take, turned_length]; omega)) (by omega) (Nat.le_of_ble_eq_true rfl) ?_; conv => whnf)
              | (refine And.intro (And.intro (by kernel_rfl) (And.intro rfl (Nat.le_of_ble_eq_true rfl))) ?_; conv => whnf)
              | refine aIf_eqf ?_
              | (refine aIf_dec (fun _ => ?_) (fun _ => ?_) <;> conv => whnf))
            all_goals (first | (exfalso; omega) | contradiction | skip)
            refine cut_ml (M := [(q, o)]) rfl ?_
            conv => whnf
            repeat' (first
              | (refine append_same ?_; conv => whnf))
            refine letterTaken_callM (M := [(q, o)]) ?_
            conv => whnf
            repeat' (first
              | (refine aIf_t ?_; conv => whnf)
              | (refine aIf_f ?_; conv => whnf)
              | (refine callG_t ?_; conv => whnf)
              | (refine append_same ?_; conv => whnf)
              | (refine And.intro (pureL_ml _) ?_; conv => whnf)
              | (refine letterTaken_callM ?_; conv => whnf)
              | (refine append_int rfl rfl (by first | rfl | (simp only [List.length_take, turned_length]; omega)) (by omega) (Nat.le_of_ble_eq_true rfl) ?_; conv => whnf)
              | (refine And.intro (And.intro (by kernel_rfl) (And.intro rfl (Nat.le_of_ble_eq_true rfl))) ?_; conv => whnf)
              | refine aIf_eqt ?_
              | (refine aIf_dec (fun _ => ?_) (fun _ => ?_) <;> conv => whnf))
            all_goals (first | (exfalso; omega) | contradiction | skip)
            refine next_u (k + 1) (show zs.length - (k + 1) < zs.length - k by omega) (by exact (by omega : k + 1 ≤ zs.length)) ?_
            rw [e]
            conv => whnf
            repeat' (first
              | exact trivial
              | exact rfl
              | exact pureL_ints _ _
              | exact Or.inl (And.intro rfl rfl)
              | exact le_ints rfl
              | exact pureL_ii _ _
              | exact pureL_ml _
              | refine Or.inr ?_
              | refine And.intro ?_ ?_
              | exact Nat.le_of_ble_eq_true rfl
              | exact List.length_append
              | exact int_eq (by rw [IntWalk.i64_in _ (by omega)] <;> omega))
          · have e := llTo_f (fs := M.map Prod.snd) (gs := M'.map Prod.snd) (o := o) (i := k) (fun h => h3 h.2)
            conv => whnf
            repeat' (first
              | (refine aIf_t ?_; conv => whnf)
              | (refine aIf_f ?_; conv => whnf)
              | (refine aGet_in rfl ?_; conv => whnf)
              | (refine callG_t ?_; conv => whnf)
              | (refine append_same ?_; conv => whnf)
              | (refine And.intro (pureL_ml _) ?_; conv => whnf)
              | (refine letterTaken_callM ?_; conv => whnf)
              | (refine append_int rfl rfl (by first | rfl | (simp only [List.length_take, turned_length]; omega)) (by omega) (Nat.le_of_ble_eq_true rfl) ?_; conv => whnf)
              | (refine And.intro (And.intro (by kernel_rfl) (And.intro rfl (Nat.le_of_ble_eq_true rfl))) ?_; conv => whnf)
              | refine aIf_eqf ?_
              | (refine aIf_dec (fun _ => ?_) (fun _ => ?_) <;> conv => whnf))
            all_goals (first | (exfalso; omega) | contradiction | skip)
            refine cut_ml (M := [(q, o)]) rfl ?_
            conv => whnf
            repeat' (first
              | (refine append_same ?_; conv => whnf))
            refine letterTaken_callM (M := [(q, o)]) ?_
            conv => whnf
            repeat' (first
              | (refine aIf_t ?_; conv => whnf)
              | (refine aIf_f ?_; conv => whnf)
              | (refine callG_t ?_; conv => whnf)
              | (refine append_same ?_; conv => whnf)
              | (refine And.intro (pureL_ml _) ?_; conv => whnf)
              | (refine letterTaken_callM ?_; conv => whnf)
              | (refine append_int rfl rfl (by first | rfl | (simp only [List.length_take, turned_length]; omega)) (by omega) (Nat.le_of_ble_eq_true rfl) ?_; conv => whnf)
              | (refine And.intro (And.intro (by kernel_rfl) (And.intro rfl (Nat.le_of_ble_eq_true rfl))) ?_; conv => whnf)
              | refine aIf_eqt ?_
              | (refine aIf_dec (fun _ => ?_) (fun _ => ?_) <;> conv => whnf))
            all_goals (first | (exfalso; omega) | contradiction | skip)
            refine next_u (k + 1) (show zs.length - (k + 1) < zs.length - k by omega) (by exact (by omega : k + 1 ≤ zs.length)) ?_
            rw [e]
            conv => whnf
            repeat' (first
              | exact trivial
              | exact rfl
              | exact pureL_ints _ _
              | exact Or.inl (And.intro rfl rfl)
              | exact le_ints rfl
              | exact pureL_ii _ _
              | exact pureL_ml _
              | refine Or.inr ?_
              | refine And.intro ?_ ?_
              | exact Nat.le_of_ble_eq_true rfl
              | exact int_eq (by rw [IntWalk.i64_in _ (by omega)] <;> omega))
        · have e := llTo_f (fs := M.map Prod.snd) (gs := M'.map Prod.snd) (o := o) (i := k) (fun h => h.1.elim h1 h2)
          conv => whnf
          repeat' (first
            | (refine aIf_t ?_; conv => whnf)
            | (refine aIf_f ?_; conv => whnf)
            | (refine aGet_in rfl ?_; conv => whnf)
            | (refine callG_t ?_; conv => whnf)
            | (refine append_same ?_; conv => whnf)
            | (refine And.intro (pureL_ml _) ?_; conv => whnf)
            | (refine letterTaken_callM ?_; conv => whnf)
            | (refine append_int rfl rfl (by first | rfl | (simp only [List.length_take, turned_length]; omega)) (by omega) (Nat.le_of_ble_eq_true rfl) ?_; conv => whnf)
            | (refine And.intro (And.intro (by kernel_rfl) (And.intro rfl (Nat.le_of_ble_eq_true rfl))) ?_; conv => whnf)
            | refine aIf_eqf ?_
            | (refine aIf_dec (fun _ => ?_) (fun _ => ?_) <;> conv => whnf))
          all_goals (first | (exfalso; omega) | contradiction | skip)
          refine cut_ml (M := [(q, o)]) rfl ?_
          conv => whnf
          repeat' (first
            | (refine append_same ?_; conv => whnf))
          refine letterTaken_callM (M := [(q, o)]) ?_
          conv => whnf
          repeat' (first
            | (refine aIf_t ?_; conv => whnf)
            | (refine aIf_f ?_; conv => whnf)
            | (refine callG_t ?_; conv => whnf)
            | (refine append_same ?_; conv => whnf)
            | (refine And.intro (pureL_ml _) ?_; conv => whnf)
            | (refine letterTaken_callM ?_; conv => whnf)
            | (refine append_int rfl rfl (by first | rfl | (simp only [List.length_take, turned_length]; omega)) (by omega) (Nat.le_of_ble_eq_true rfl) ?_; conv => whnf)
            | (refine And.intro (And.intro (by kernel_rfl) (And.intro rfl (Nat.le_of_ble_eq_true rfl))) ?_; conv => whnf)
            | refine aIf_eqt ?_
            | (refine aIf_dec (fun _ => ?_) (fun _ => ?_) <;> conv => whnf))
          all_goals (first | (exfalso; omega) | contradiction | skip)
          refine next_u (k + 1) (show zs.length - (k + 1) < zs.length - k by omega) (by exact (by omega : k + 1 ≤ zs.length)) ?_
          rw [e]
          conv => whnf
          repeat' (first
            | exact trivial
            | exact rfl
            | exact pureL_ints _ _
            | exact Or.inl (And.intro rfl rfl)
            | exact le_ints rfl
            | exact pureL_ii _ _
            | exact pureL_ml _
            | refine Or.inr ?_
            | refine And.intro ?_ ?_
            | exact Nat.le_of_ble_eq_true rfl
            | exact int_eq (by rw [IntWalk.i64_in _ (by omega)] <;> omega))
    · have he : k = zs.length := by omega
      conv => whnf
      repeat' (first
        | (refine aIf_t ?_; conv => whnf)
        | (refine aIf_f ?_; conv => whnf)
        | (refine aGet_in rfl ?_; conv => whnf)
        | (refine And.intro (by omega) ?_; conv => whnf)
        | (refine callG_t ?_; conv => whnf)
        | (refine append_same ?_; conv => whnf)
        | (refine letterTaken_callM ?_; conv => whnf)
        | (refine append_int rfl rfl (by first | rfl | (simp only [List.length_take, turned_length]; omega)) (by omega) (Nat.le_of_ble_eq_true rfl) ?_; conv => whnf)
        | refine aIf_eqf ?_
        | (refine aIf_dec (fun _ => ?_) (fun _ => ?_) <;> conv => whnf))
      all_goals (first | (exfalso; omega) | contradiction | skip)
      subst he
      exact retL rfl rfl rfl rfl
end Go.Proofs.Ytmgggbgejdkamaa
