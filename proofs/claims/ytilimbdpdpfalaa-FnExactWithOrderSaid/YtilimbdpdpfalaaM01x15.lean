import Derived.Test.YtilimbdpdpfalaaM01x12
import Derived.Test.YtilimbdpdpfalaaM01x14
import Derived.Test.YtilimbdpdpfalaaM01x9
import Derived.Handed
import Derived.JoinedOf
import Derived.Test.YtilimbdpdpfalaaRows
import Derived.Test.YtilimbdpdpfalaaM01x10
import Derived.Test.YtilimbdpdpfalaaM01x11
/- Chapter 2: copies, axes, what is told; NumAt, NegOf, FoldOf. -/
namespace Go.Proofs.Ytilimbdpdpfalaa
set_option maxRecDepth 20000
open Go.RowKit Go.Am
theorem append_sl {env : List AV} {rows : List Row} {ctr low τ ver n c m : Nat} {zs ws : List Int} {cells : List AV} {k : AV → St → Prop} (hr : rows[τ]? = some ⟨ver, 3, 1, zs.map (.int .i64)⟩) (hc : cells = ws.map (.int .i64)) (hm : m = ws.length) (hn : n = zs.length) (hle : n + m ≤ 4000000) (hlow : low ≤ τ)
    (h0 : ws = [] → k (.ref τ ver 0 n) ⟨env, rows, ctr, low⟩)
    (hk : ws ≠ [] → k (.ref τ ctr 0 (n + m)) ⟨env, rows.set τ ⟨ctr, 3, 1, (zs ++ ws).map (.int .i64)⟩, ctr + 1, low⟩) : aAppend Try.prog ⟨env, rows, ctr, low⟩ 46 (.ref τ ver 0 n) (.sl c m cells) k := by
  have hb : (bsz Try.prog 3) = some 8 := by kernel_rfl
  have hz : zeroCellsA Try.prog 3 = some [.int .i64 0] := by kernel_rfl
  have hu : Try.prog.underlying 46 = some (.slice 3) := by kernel_rfl
  have hs : ∀ K : Nat → Prop, K 1 → aSz Try.prog 3 K := fun K h => by
    have : tsz Try.prog 3 = some 1 := by kernel_rfl
    unfold aSz; rw [this]; exact h
  subst hn; subst hm; subst hc
  unfold aAppend
  rw [hu]
  simp only
  rw [hz]
  simp only
  refine hs _ ?_
  unfold aElems aRow
  refine ⟨by simp, ⟨rfl, by rw [hb]; rfl, by rw [hb]; decide⟩, ?_⟩
  simp only [hr]
  rw [if_pos trivial, if_pos (by simp)]
  refine ⟨by simp, fun h => h0 (List.eq_nil_of_length_eq_zero h), fun h0' h => ?_, fun h1 _ => ⟨hlow, by rw [hb]; simp only [Option.getD_some]; omega, ?_⟩⟩
  · exfalso; simp at h; omega
  · have e : (zs.map (AV.int .i64)).take zs.length = zs.map (.int .i64) := List.take_of_length_le (by simp)
    have hne : ws ≠ [] := fun e => by subst e; simp at h1
    simpa [e] using hk hne
attribute [local irreducible] aPlan aGet aIf aLoop aCall RetB NextB CallB CallG aCut aSet aAppend

set_option maxRecDepth 10000 in
theorem copyNums_sound : Sound Try.prog 113 (fnL (ι := Nat × List Int) 3 (fun | (c, zs) => [.sl c zs.length (zs.map (.int .i64))]) (fun | (_, zs) => zs.length ≤ 1048576) (fun | (_, zs) => zs)) := by
  refine sound_of Try.func113 rfl (enters_of Try.func113 (by kernel_rfl) (by kernel_rfl)) ?_
  rintro ⟨c, zs⟩ hpre
  have hpre : zs.length ≤ 1048576 := hpre
  conv => whnf
  repeat' (first
    | (refine And.intro (And.intro (by kernel_rfl) (And.intro rfl (Nat.le_of_ble_eq_true rfl))) ?_; conv => whnf))
  refine append_sl (zs := []) (ws := zs) rfl rfl rfl rfl (by omega) (Nat.zero_le _) (fun e => ?_) (fun _ => ?_)
  · subst e
    conv => whnf
    repeat' (first
      | (refine aIf_t ?_; conv => whnf))
    exact retL rfl rfl rfl rfl
  · conv => whnf
    repeat' (first
      | (refine aIf_t ?_; conv => whnf))
    exact retL rfl rfl rfl (by simp)
theorem copyNums_call {c : Nat} {zs : List Int} {env : List AV} {rows : List Row} {ctr low : Nat} {k : AV → St → Prop} (hpre : zs.length ≤ 1048576) (h : k (.ref rows.length ctr 0 zs.length) ⟨env, rows ++ [⟨ctr, 3, 1, zs.map (.int .i64)⟩], ctr + 1, low⟩) :
    CallB Try.prog 113 ⟨env, rows, ctr, low⟩ [.sl c zs.length (zs.map (.int .i64))] k := callL_in copyNums_sound (c, zs) hpre h
set_option maxRecDepth 10000 in
theorem l2Nums_sound : Sound Try.prog 111 (fnL (ι := Nat × List Int) 3 (fun | (c, zs) => [.sl c zs.length (zs.map (.int .i64))]) (fun | (_, zs) => zs.length ≤ 1048576) (fun | (_, zs) => zs)) := by
  refine sound_of Try.func111 rfl (enters_of Try.func111 (by kernel_rfl) (by kernel_rfl)) ?_
  rintro ⟨c, zs⟩ hpre
  have hpre : zs.length ≤ 1048576 := hpre
  conv => whnf
  repeat' (first
    | (refine And.intro (And.intro (by kernel_rfl) (And.intro rfl (Nat.le_of_ble_eq_true rfl))) ?_; conv => whnf))
  refine append_sl (zs := []) (ws := zs) rfl rfl rfl rfl (by omega) (Nat.zero_le _) (fun e => ?_) (fun _ => ?_)
  · subst e
    conv => whnf
    repeat' (first
      | (refine aIf_t ?_; conv => whnf))
    exact retL rfl rfl rfl rfl
  · conv => whnf
    repeat' (first
      | (refine aIf_t ?_; conv => whnf))
    exact retL rfl rfl rfl (by simp)
theorem l2Nums_call {c : Nat} {zs : List Int} {env : List AV} {rows : List Row} {ctr low : Nat} {k : AV → St → Prop} (hpre : zs.length ≤ 1048576) (h : k (.ref rows.length ctr 0 zs.length) ⟨env, rows ++ [⟨ctr, 3, 1, zs.map (.int .i64)⟩], ctr + 1, low⟩) :
    CallB Try.prog 111 ⟨env, rows, ctr, low⟩ [.sl c zs.length (zs.map (.int .i64))] k := callL_in l2Nums_sound (c, zs) hpre h

set_option maxRecDepth 10000 in
theorem axisOk_sound : Sound Try.prog 117 (fnS (ι := Nat × List Int × Nat × List Int × Int) (fun | (c, xs, d, zs, i) => [.agg [.sl c xs.length (xs.map (.int .i64)), .sl d zs.length (zs.map (.int .i64))], .int .i64 i]) (fun _ => True) (fun | (_, xs, _, _, i) => .bool (decide (0 ≤ i ∧ i < xs.length)))) := by
  refine sound_of Try.func117 rfl (enters_of Try.func117 (by kernel_rfl) (by kernel_rfl)) ?_
  rintro ⟨c, xs, d, zs, i⟩ -
  conv => whnf
  repeat' (first
    | (refine aIf_t ?_; conv => whnf)
    | (refine aIf_f ?_; conv => whnf)
    | (refine fun (_ : _ ≤ maxLen) => ?_; conv => whnf)
    | (refine aGet_in rfl ?_; conv => whnf)
    | (refine And.intro rfl (And.intro (List.cons_ne_nil _ _) ?_); conv => whnf)
    | refine aIf_eqt ?_
    | (refine aIf_dec (fun _ => ?_) (fun _ => ?_) <;> conv => whnf))
  all_goals (refine retS rfl (congrArg AV.bool ?_); simp; try omega)
theorem axisOk_call {c d : Nat} {xs zs : List Int} {i : Int} {env : List AV} {rows : List Row} {ctr low : Nat} {k : AV → St → Prop} (h : k (.bool (decide (0 ≤ i ∧ i < xs.length))) ⟨env, rows, ctr + 1, low⟩) :
    CallB Try.prog 117 ⟨env, rows, ctr, low⟩ [.agg [.sl c xs.length (xs.map (.int .i64)), .sl d zs.length (zs.map (.int .i64))], .int .i64 i] k := callS_in axisOk_sound (c, xs, d, zs, i) trivial rfl h

theorem idx_lt {xs zs ps : List Int} (h : tensorOk xs zs = true) (h' : ¬ indexAt xs ps < 0) : placeOk xs ps = true ∧ indexAt xs ps = idxTo xs ps xs.length ∧ 0 ≤ indexAt xs ps ∧ indexAt xs ps < zs.length := by
  obtain ⟨h1, h2, h3⟩ := (tensorOk_iff _ _).1 h
  have hp : placeOk xs ps = true := by
    by_cases hp : placeOk xs ps = true
    · exact hp
    · exfalso; apply h'; unfold indexAt; rw [if_neg hp]; decide
  have e : indexAt xs ps = idxTo xs ps xs.length := if_pos hp
  obtain ⟨p1, p2, p3⟩ := (placeOk_iff _ _).1 hp
  have hr := idx_range h1 (ps := ps) p3 xs.length (Nat.le_refl _)
  rw [e]
  exact ⟨hp, rfl, by omega, by omega⟩
def naM (xs zs ps : List Int) : Int × Bool := if (tensorOk xs zs && placeOk xs ps) = true then (zs.getD (idxTo xs ps xs.length).toNat 0, true) else (0, false)
theorem na_t {xs zs ps : List Int} (h : tensorOk xs zs = true) (h' : placeOk xs ps = true) : naM xs zs ps = (zs.getD (idxTo xs ps xs.length).toNat 0, true) := by unfold naM; rw [if_pos (by rw [h, h']; rfl)]
theorem na_f1 {xs zs ps : List Int} (h : tensorOk xs zs = false) : naM xs zs ps = (0, false) := by unfold naM; rw [if_neg (by rw [h]; exact Bool.false_ne_true)]
theorem na_f2 {xs zs ps : List Int} (h : indexAt xs ps < 0) : naM xs zs ps = (0, false) := by
  unfold naM
  rw [if_neg]
  intro h'
  rw [Bool.and_eq_true] at h'
  obtain ⟨h1, h2⟩ := h'
  have e : indexAt xs ps = idxTo xs ps xs.length := if_pos h2
  obtain ⟨p1, p2, p3⟩ := (placeOk_iff _ _).1 h2
  have hr := idx_range p1 (ps := ps) p3 xs.length (Nat.le_refl _)
  omega
def sNumAt : CSpec := fnIB (ι := Nat × List Int × Nat × List Int × Nat × List Int) (fun | (c, xs, d, zs, e, ps) => [.agg [.sl c xs.length (xs.map (.int .i64)), .sl d zs.length (zs.map (.int .i64))], .sl e ps.length (ps.map (.int .i64))]) (fun _ => True) (fun | (_, xs, _, zs, _, ps) => naM xs zs ps)
theorem tensor_len {xs zs : List Int} (h : tensorOk xs zs = true) : xs.length ≤ 3 ∧ 1 ≤ zs.length ∧ zs.length ≤ 64 := by
  obtain ⟨h1, h2, h3⟩ := (tensorOk_iff _ _).1 h
  have h4 := cnt64 h1 (Nat.le_refl _)
  exact ⟨((shapeOk_iff _).1 h1).1, by omega, by omega⟩
theorem tensor_or (xs zs : List Int) : (tensorOk xs zs = true ∧ xs.length ≤ 3 ∧ 1 ≤ zs.length ∧ zs.length ≤ 64) ∨ tensorOk xs zs = false := by
  cases h : tensorOk xs zs
  · exact .inr rfl
  · exact .inl ⟨rfl, tensor_len h⟩
abbrev nl (v : Nat) : Row := ⟨v, 3, 1, []⟩
abbrev li (v : Nat) (zs : List Int) : Row := ⟨v, 3, 1, zs.map (.int .i64)⟩
abbrev bt (v : Nat) (cells : List AV) : Row := ⟨v, 67, 2, cells⟩
abbrev TM := List Int × List Int × Bool
def noT : TM := ([], [], false)
def negM (xs zs : List Int) : TM := if tensorOk xs zs = true then (xs, zs.map (fun z => -z), true) else noT
theorem neg_t {xs zs : List Int} (h : tensorOk xs zs = true) : negM xs zs = (xs, zs.map (fun z => -z), true) := if_pos h
theorem neg_f {xs zs : List Int} (h : tensorOk xs zs = false) : negM xs zs = noT := if_neg (by rw [h]; exact Bool.false_ne_true)
theorem getD_map {zs : List Int} {f : Int → Int} {j : Nat} (h : j < zs.length) : (zs.map f).getD j 0 = f (zs.getD j 0) := by
  simp [List.getD, List.getElem?_map, List.getElem?_eq_getElem h]
theorem getD_snoc {ws : List Int} {k j : Nat} {z : Int} (hl : ws.length = k) (hj : j < k + 1) : (ws ++ [z]).getD j 0 = if j = k then z else ws.getD j 0 := by
  subst hl
  by_cases e : j = ws.length
  · subst e; simp [List.getD]
  · have : j < ws.length := by omega
    rw [if_neg e]
    simp [List.getD, List.getElem?_append_left this]
def sNegOf : CSpec := fnTB (ι := Nat × List Int × Nat × List Int) 3 (fun | (c, xs, d, zs) => [.agg [.sl c xs.length (xs.map (.int .i64)), .sl d zs.length (zs.map (.int .i64))]]) (fun _ => True) (fun | (_, xs, _, zs) => negM xs zs)
set_option maxRecDepth 10000 in
theorem iNegOf_sound : Sound Try.prog 146 sNegOf := by
  refine sound_of Try.func146 rfl (enters_of Try.func146 (by kernel_rfl) (by kernel_rfl)) ?_
  rintro ⟨c, xs, d, zs⟩ -
  rcases tensor_or xs zs with ⟨ht, hx, hz⟩ | ht
  · have hnum := ((tensorOk_iff _ _).1 ht).2.2
    conv => whnf
    repeat' (first
      | (refine fun (_ : _ ≤ maxLen) => ?_; conv => whnf)
      | (refine aGet_in rfl ?_; conv => whnf)
      | (refine And.intro (And.intro (Int.le_refl _) (And.intro (by kernel_rfl) (And.intro rfl (by kernel_rfl)))) (And.intro (And.intro (by omega) (And.intro (bytes_le (b := 8) rfl (by omega)) (by omega))) ?_); conv => whnf)
      | (refine load_same ?_; conv => whnf)
      | (refine And.intro rfl (And.intro (List.cons_ne_nil _ _) ?_); conv => whnf)
      | (refine And.intro (Nat.le_of_ble_eq_true rfl) ?_; conv => whnf)
      | (refine callG_t ?_; conv => whnf)
      | (refine iTensorOk_call ?_; conv => whnf)
      | (refine takeN_in ?_; conv => whnf)
      | (refine And.intro (pureL_ints _ _) ?_; conv => whnf)
      | (refine And.intro (by kernel_rfl) ?_; conv => whnf)
      | (refine aIf_tt (by assumption) ?_; conv => whnf)
      | refine aIf_not ?_)
    refine loop_in (ι := Nat × List Int) (fun | (k, ws) => ⟨[.un, .ptr 0 1 0, .ptr 3 4 0, .bool false, .ref 4 6 0 zs.length, .un, .un, .un, .un, .un, .un, .un, .un, .un, .un, .un, .sl d zs.length (zs.map (.int .i64)), .int .i64 zs.length, .int .i64 k, .un, .un, .un, .un, .un, .un, .un, .un, .un, .un, .un, .un, .un, .un, .un], [bt 1 [.sl c xs.length (xs.map (.int .i64)), .sl d zs.length (zs.map (.int .i64))], nl 2, nl 3, bt 4 [.ref 1 2 0 0, .ref 2 3 0 0], li 6 ws], 7, 0⟩)
      (fun x => x.1 ≤ zs.length ∧ x.2.length = zs.length ∧ ∀ j, j < x.1 → x.2.getD j 0 = -(zs.getD j 0)) (fun x => zs.length - x.1) (0, List.replicate zs.length 0) ⟨Nat.zero_le _, by simp, fun j hj => absurd hj (Nat.not_lt_zero _)⟩ ?_ ?_
    · repeat' (first
        | exact trivial
        | exact rfl
        | exact pureL_ints _ _
        | exact Or.inl (And.intro rfl rfl)
        | exact le_ints (rep_ints _ _)
        | exact Or.inl (And.intro (pureL_pair _ _ _ _ _ _) rfl)
        | refine Or.inr ?_
        | refine And.intro ?_ ?_
        | exact Nat.le_of_ble_eq_true rfl)
    · rintro ⟨k, ws⟩ ⟨hk, hl, hall⟩
      have hk : k ≤ zs.length := hk
      have hl : ws.length = zs.length := hl
      have hall : ∀ j, j < k → ws.getD j 0 = -(zs.getD j 0) := hall
      conv => whnf
      repeat' (first
        | (refine get_nat (by omega) ?_; conv => whnf)
        | (refine aGet_in rfl ?_; conv => whnf)
        | (refine And.intro (by omega) ?_; conv => whnf)
        | (refine And.intro (Nat.le_of_ble_eq_true rfl) ?_; conv => whnf)
        | (refine callG_t ?_; conv => whnf)
        | (refine copyNums_call (by omega) ?_; conv => whnf)
        | (refine takeN_in ?_; conv => whnf)
        | (refine And.intro (pureL_ints _ _) ?_; conv => whnf)
        | (refine And.intro rfl (And.intro rfl (And.intro (by first | omega | (rw [List.length_map]; omega)) ?_)); conv => whnf)
        | (refine set_nat ?_ (by omega); conv => whnf)
        | (refine set_force ?_; conv => whnf)
        | (refine And.intro (by kernel_rfl) ?_; conv => whnf)
        | (refine aIf_dec (fun _ => ?_) (fun _ => ?_) <;> conv => whnf))
      · have hn := hnum k (by omega)
        have hw : IntKind.i64.wrap (0 - zs.getD k 0) = -(zs.getD k 0) := (IntWalk.i64_in _ (by omega)).trans (by omega)
        refine next_in (k + 1, ws.set k (IntKind.i64.wrap (0 - zs.getD k 0))) (show zs.length - (k + 1) < zs.length - k by omega) ⟨(show k + 1 ≤ zs.length by omega), by simpa using hl, fun j hj => ?_⟩ ?_
        · have hj : j < k + 1 := hj
          show (ws.set k (IntKind.i64.wrap (0 - zs.getD k 0))).getD j 0 = _
          rw [getD_set (by omega)]
          split
          · rename_i e; rw [e] at hw; rw [e]; exact hw
          · exact hall j (by omega)
        · repeat' (first
            | exact trivial
            | exact rfl
            | exact pureL_ints _ _
            | exact Or.inl (And.intro rfl rfl)
            | exact le_ints rfl
            | exact Or.inl (And.intro (pureL_pair _ _ _ _ _ _) rfl)
            | refine Or.inr ?_
            | refine And.intro ?_ ?_
            | exact Nat.le_of_ble_eq_true rfl
            | exact int_eq (by rw [IntWalk.i64_in _ (by omega)] <;> omega))
      · have e : ws = zs.map (fun z => -z) := getD_ext (by simpa using hl) fun j hj => by
          rw [List.length_map] at hj
          rw [hall j (by omega), getD_map hj]
        subst e
        refine retTB (hM := neg_t ht) ?_ ?_ ?_ ?_ ?_
        all_goals (first | exact rfl | decide | (simp; done))
  · conv => whnf
    repeat' (first
      | (refine load_same ?_; conv => whnf)
      | (refine And.intro rfl (And.intro (List.cons_ne_nil _ _) ?_); conv => whnf)
      | (refine And.intro (Nat.le_of_ble_eq_true rfl) ?_; conv => whnf)
      | (refine callG_t ?_; conv => whnf)
      | (refine iTensorOk_call ?_; conv => whnf)
      | (refine takeN_in ?_; conv => whnf)
      | (refine And.intro (pureL_ints _ _) ?_; conv => whnf)
      | (refine set_force ?_; conv => whnf)
      | (refine And.intro (by kernel_rfl) ?_; conv => whnf)
      | (refine aIf_ff (by assumption) ?_; conv => whnf)
      | refine aIf_not ?_)
    refine retTB (hM := neg_f ht) ?_ ?_ ?_ ?_ ?_
    all_goals (first | exact rfl | decide | (simp; done))
theorem neg_len (xs zs : List Int) : (negM xs zs).1.length ≤ 3 ∧ (negM xs zs).2.1.length ≤ 64 := by
  rcases tensor_or xs zs with ⟨ht, hx, hz⟩ | ht
  · rw [neg_t ht]; exact ⟨hx, by simpa using hz.2⟩
  · rw [neg_f ht]; exact ⟨Nat.zero_le _, Nat.zero_le _⟩
theorem iNegOf_call {c d : Nat} {xs zs : List Int} {env : List AV} {rows : List Row} {ctr low : Nat} {k : AV → St → Prop} (hk : k (.tup [.agg [.ref rows.length ctr 0 (negM xs zs).1.length, .ref (rows.length + 1) ctr 0 (negM xs zs).2.1.length], .bool (negM xs zs).2.2]) ⟨env, rows ++ [⟨ctr, 3, 1, (negM xs zs).1.map (.int .i64)⟩, ⟨ctr, 3, 1, (negM xs zs).2.1.map (.int .i64)⟩], ctr + 1, low⟩) :
    CallB Try.prog 146 ⟨env, rows, ctr, low⟩ [.agg [.sl c xs.length (xs.map (.int .i64)), .sl d zs.length (zs.map (.int .i64))]] k := callTB_in iNegOf_sound (c, xs, d, zs) trivial hk
end Go.Proofs.Ytilimbdpdpfalaa

/- Sums of places times steps. -/
namespace Go.Proofs.Ytilimbdpdpfalaa
set_option maxRecDepth 20000
open Go.RowKit Go.Am

def dotTo (ps ss : List Int) : Nat → Int
  | 0 => 0
  | k + 1 => dotTo ps ss k + ps.getD k 0 * ss.getD k 0
theorem mul_in {a b : Int} (ha : 0 ≤ a ∧ a ≤ 3) (hb : 0 ≤ b ∧ b ≤ 64) : 0 ≤ a * b ∧ a * b ≤ 192 := by
  have h1 := Int.mul_le_mul ha.2 hb.2 hb.1 (by omega)
  exact ⟨Int.mul_nonneg ha.1 hb.1, by omega⟩
theorem dot_in {ps ss : List Int} {n : Nat} (hp : ∀ j, j < n → 0 ≤ ps.getD j 0 ∧ ps.getD j 0 ≤ 3) (hs : ∀ j, j < n → 0 ≤ ss.getD j 0 ∧ ss.getD j 0 ≤ 64) : ∀ k, k ≤ n → 0 ≤ dotTo ps ss k ∧ dotTo ps ss k ≤ 192 * k
  | 0, _ => ⟨Int.le_refl 0, Int.le_refl 0⟩
  | k + 1, hk => by
    have ih := dot_in hp hs k (by omega)
    have h1 := mul_in (hp k (by omega)) (hs k (by omega))
    show 0 ≤ dotTo ps ss k + _ ∧ dotTo ps ss k + _ ≤ _
    omega
theorem dot_mono {ps ss : List Int} {n : Nat} (hp : ∀ j, j < n → 0 ≤ ps.getD j 0 ∧ ps.getD j 0 ≤ 3) (hs : ∀ j, j < n → 0 ≤ ss.getD j 0 ∧ ss.getD j 0 ≤ 64) {q : Nat} : ∀ d, q + d ≤ n → dotTo ps ss q ≤ dotTo ps ss (q + d)
  | 0, _ => Int.le_refl _
  | d + 1, hd => by
    have ih := dot_mono hp hs d (q := q) (by omega)
    have h1 := mul_in (hp (q + d) (by omega)) (hs (q + d) (by omega))
    have e : dotTo ps ss (q + (d + 1)) = dotTo ps ss (q + d) + ps.getD (q + d) 0 * ss.getD (q + d) 0 := rfl
    omega

/-- Strides are what they are without overflow. -/
theorem str_bound {zs : List Int} (hs : shapeOk zs = true) : ∀ m, m ≤ zs.length → 1 ≤ strT zs m ∧ strT zs m ≤ 4 ^ m
  | 0, _ => ⟨Int.le_refl _, Int.le_refl _⟩
  | m + 1, hm => by
    obtain ⟨h1, h2⟩ := str_bound hs m (by omega)
    have h5 := size_in hs (j := zs.length - 1 - m) (by omega)
    have h3 := ((shapeOk_iff zs).1 hs).1
    have hp := pow4 (n := m) (by omega)
    have a1 : 1 * 1 ≤ strT zs m * zs.getD (zs.length - 1 - m) 0 := Int.mul_le_mul h1 h5.1 (by decide) (by omega)
    have a2 : strT zs m * zs.getD (zs.length - 1 - m) 0 ≤ 4 ^ m * 4 := Int.mul_le_mul h2 h5.2 (by omega) (by omega)
    have e := strT_next (zs := zs) (q := zs.length - (m + 1)) (by omega)
    rw [show zs.length - (zs.length - (m + 1)) = m + 1 by omega, show zs.length - (zs.length - (m + 1) + 1) = m by omega, show zs.length - (m + 1) = zs.length - 1 - m by omega] at e
    rw [IntWalk.i64_in _ (by omega)] at e
    rw [e, Int.pow_succ]
    exact ⟨by omega, a2⟩
theorem str_in {zs : List Int} (hs : shapeOk zs = true) {m : Nat} (hm : m ≤ zs.length) : 1 ≤ strT zs m ∧ strT zs m ≤ 64 := by
  have h1 := str_bound hs m hm
  have h3 := ((shapeOk_iff zs).1 hs).1
  have hp := pow4 (n := m) (by omega)
  omega
theorem str_next {zs : List Int} (hs : shapeOk zs = true) {k : Nat} (hk : k < zs.length) : strT zs (zs.length - k) = strT zs (zs.length - (k + 1)) * zs.getD k 0 := by
  have h1 := str_in hs (m := zs.length - (k + 1)) (by omega)
  have h2 := size_in hs hk
  have h3 := mul_le4 (a := strT zs (zs.length - (k + 1))) (x := zs.getD k 0) (by omega) (by omega)
  rw [strT_next (by omega)]
  exact IntWalk.i64_in _ (by omega)
theorem strides_in {zs : List Int} (hs : shapeOk zs = true) {j : Nat} (hj : j < zs.length) : 1 ≤ (strides zs).getD j 0 ∧ (strides zs).getD j 0 ≤ 64 := by
  rw [strides_getD hj]; exact str_in hs (by omega)

/-- An index is the sum of the places times the strides. -/
theorem idx_dot_k {xs ps : List Int} (hs : shapeOk xs = true) (hp : ∀ j, j < xs.length → 0 ≤ ps.getD j 0 ∧ ps.getD j 0 < xs.getD j 0) : ∀ k, k ≤ xs.length → idxTo xs ps k * strT xs (xs.length - k) = dotTo ps (strides xs) k
  | 0, _ => by show 0 * _ = 0; exact Int.zero_mul _
  | k + 1, hk => by
    have ih := idx_dot_k hs hp k (by omega)
    have hr := idx_range hs hp k (by omega)
    rw [idx_next hs (by omega) hr (hp k (by omega)), Int.add_mul, Int.mul_assoc, Int.mul_comm (xs.getD k 0), ← str_next hs (by omega), ih]
    show _ = dotTo ps (strides xs) k + ps.getD k 0 * (strides xs).getD k 0
    rw [strides_getD (by omega), show xs.length - 1 - k = xs.length - (k + 1) by omega]
theorem idx_dot {xs ps : List Int} (hs : shapeOk xs = true) (hp : ∀ j, j < xs.length → 0 ≤ ps.getD j 0 ∧ ps.getD j 0 < xs.getD j 0) : idxTo xs ps xs.length = dotTo ps (strides xs) xs.length := by
  have h := idx_dot_k hs hp xs.length (Nat.le_refl _)
  rw [Nat.sub_self] at h
  have e : strT xs 0 = 1 := rfl
  rw [e, Int.mul_one] at h
  exact h
theorem places_in {zs : List Int} {i : Int} (hs : shapeOk zs = true) (hi : 0 ≤ i ∧ i < cntTo zs zs.length) {j : Nat} (hj : j < zs.length) : 0 ≤ (places zs i).getD j 0 ∧ (places zs i).getD j 0 ≤ 3 := by
  have h1 := place_in hs hi hj
  have h2 := size_in hs hj
  omega

/-- What is read of numbers, by steps. -/
def rdAt (shape steps : List Int) (start : Int) (i : Nat) : Int := start + dotTo (places shape i) steps shape.length
def rdL (nums shape steps : List Int) (start : Int) : List Int := (List.range (cntTo shape shape.length).toNat).map fun i => nums.getD (rdAt shape steps start i).toNat 0
theorem rdL_length (nums shape steps : List Int) (start : Int) : (rdL nums shape steps start).length = (cntTo shape shape.length).toNat := by simp [rdL]
theorem range_getD {n : Nat} {f : Nat → Int} {j : Nat} (h : j < n) : ((List.range n).map f).getD j 0 = f j := by
  simp [List.getD, List.getElem?_map, List.getElem?_range h]
theorem rdL_getD {nums shape steps : List Int} {start : Int} {j : Nat} (h : j < (cntTo shape shape.length).toNat) : (rdL nums shape steps start).getD j 0 = nums.getD (rdAt shape steps start j).toNat 0 := range_getD h
end Go.Proofs.Ytilimbdpdpfalaa

/- All shapes that there are. -/
namespace Go.Proofs.Ytilimbdpdpfalaa
set_option maxRecDepth 20000
open Go.RowKit Go.Am

def sizes : List Int := [1, 2, 3, 4]
def shapes3 (a : Int) : List (List Int) := sizes.flatMap fun b => sizes.map fun c => [a, b, c]
def shapes2 : List (List Int) := [] :: (sizes.map fun a => [a]) ++ (sizes.flatMap fun a => sizes.map fun b => [a, b])
theorem size_mem {z : Int} (h : 1 ≤ z ∧ z ≤ 4) : z ∈ sizes := by
  have : z = 1 ∨ z = 2 ∨ z = 3 ∨ z = 4 := by omega
  simpa [sizes] using this
theorem shape_all {p : List Int → Bool} (h2 : shapes2.all p = true) (h31 : (shapes3 1).all p = true) (h32 : (shapes3 2).all p = true) (h33 : (shapes3 3).all p = true) (h34 : (shapes3 4).all p = true) {xs : List Int} (h : shapeOk xs = true) : p xs = true := by
  have hl := ((shapeOk_iff xs).1 h).1
  have hs : ∀ z ∈ xs, z ∈ sizes := fun z hz => by
    obtain ⟨j, hj, rfl⟩ := List.mem_iff_getElem.1 hz
    have := size_in h hj
    simp only [List.getD, List.getElem?_eq_getElem hj, Option.getD_some] at this
    exact size_mem this
  rw [List.all_eq_true] at h2 h31 h32 h33 h34
  match xs, hl, hs with
  | [], _, _ => exact h2 _ (by simp [shapes2])
  | [a], _, hs =>
    have ha := hs a (by simp)
    exact h2 _ (by simp [shapes2, ha])
  | [a, b], _, hs =>
    have ha := hs a (by simp)
    have hb := hs b (by simp)
    exact h2 _ (by simp [shapes2, ha, hb])
  | [a, b, c], _, hs =>
    have ha := hs a (by simp)
    have hb := hs b (by simp)
    have hc := hs c (by simp)
    have hm : [a, b, c] ∈ shapes3 a := by
      unfold shapes3
      rw [List.mem_flatMap]
      exact ⟨b, hb, List.mem_map.2 ⟨c, hc, rfl⟩⟩
    have h4 : a = 1 ∨ a = 2 ∨ a = 3 ∨ a = 4 := by simpa [sizes] using ha
    rcases h4 with rfl | rfl | rfl | rfl
    · exact h31 _ hm
    · exact h32 _ hm
    · exact h33 _ hm
    · exact h34 _ hm
  | _ :: _ :: _ :: _ :: _, hl, _ => simp only [List.length_cons] at hl; omega
end Go.Proofs.Ytilimbdpdpfalaa

/- Chapter 2: lists without an axis; what is told of a tensor. -/
namespace Go.Proofs.Ytilimbdpdpfalaa
set_option maxRecDepth 20000
open Go.RowKit Go.Am
/-- Two rows of numbers are told as a tensor, if they are one. -/
def toldPost (t : TypeId) (xs zs : List Int) (r : AV) (ic : List (List AV)) (news : List Row) : Prop :=
  ic = [xs.map (.int .i64), zs.map (.int .i64)] ∧ ((tensorOk xs zs = true ∧ r = .tup [.agg [.ref 0 0 0 xs.length, .ref 1 0 0 zs.length], .bool true] ∧ news = []) ∨
    (tensorOk xs zs = false ∧ r = .tup [.agg [.ref 2 0 0 0, .ref 3 0 0 0], .bool false] ∧ news = [rowL t [], rowL t []]))
def sTold : CSpec := { ι := List Int × List Int, inout := [true], args := fun x => [.agg [.ref 0 0 0 x.1.length, .ref 1 0 0 x.2.length]], ins := fun x => [⟨0, 3, 1, x.1.map (.int .i64)⟩, ⟨0, 3, 1, x.2.map (.int .i64)⟩], pre := fun _ => True, post := fun x => toldPost 3 x.1 x.2 }
def sOrNone : CSpec := { ι := List Int × List Int, inout := [true, true], args := fun x => [.ref 0 0 0 x.1.length, .ref 1 0 0 x.2.length], ins := fun x => [⟨0, 3, 1, x.1.map (.int .i64)⟩, ⟨0, 3, 1, x.2.map (.int .i64)⟩], pre := fun _ => True, post := fun x => toldPost 3 x.1 x.2 }
theorem toldCall {f : FuncId} {sp : CSpec} {env : List AV} {rows : List Row} {ctr low τ1 τ2 v1 v2 : Nat} {args : List AV} {k : AV → St → Prop} (xs zs : List Int) (x : sp.ι) (hs : Sound Try.prog f sp) (hpre : sp.pre x) (hins : sp.ins x = [⟨0, 3, 1, xs.map (.int .i64)⟩, ⟨0, 3, 1, zs.map (.int .i64)⟩]) (hpost : sp.post x = toldPost 3 xs zs)
    (h1 : rows[τ1]? = some ⟨v1, 3, 1, xs.map (.int .i64)⟩) (h2 : rows[τ2]? = some ⟨v2, 3, 1, zs.map (.int .i64)⟩) (hne : τ1 ≠ τ2) (ha : callArgs ⟨env, rows, ctr, low⟩ [τ1, τ2] sp.inout args = some (sp.args x))
    (ht : tensorOk xs zs = true → k (.tup [.agg [.ref τ1 v1 0 xs.length, .ref τ2 v2 0 zs.length], .bool true]) ⟨env, setRows rows [τ1, τ2] [xs.map (.int .i64), zs.map (.int .i64)], ctr + 1, low⟩)
    (hf : tensorOk xs zs = false → k (.tup [.agg [.ref rows.length ctr 0 0, .ref (rows.length + 1) ctr 0 0], .bool false]) ⟨env, setRows rows [τ1, τ2] [xs.map (.int .i64), zs.map (.int .i64)] ++ [⟨ctr, 3, 1, []⟩, ⟨ctr, 3, 1, []⟩], ctr + 1, low⟩) :
    CallG Try.prog f ⟨env, rows, ctr, low⟩ args k := by
  refine .inr ⟨[τ1, τ2], sp, hs, sp.args x, _, by simpa using hne, ha, ?_, x, rfl, hins.symm, hpre, ?_⟩
  · simp [insOf, h1, h2, protL_ren (protL_ints .i64 xs), protL_ren (protL_ints .i64 zs)]
  · rw [hpost]
    rintro r ic news ⟨rfl, ⟨e, rfl, rfl⟩ | ⟨e, rfl, rfl⟩⟩ _
    · have := ht e
      simpa [St.after, St.news, AV.back, Go.Am.backL, backT, backV, verOf, h1, h2, protL_back (protL_ints .i64 xs), protL_back (protL_ints .i64 zs)] using this
    · have := hf e
      simpa [St.after, St.news, AV.back, Go.Am.backL, backT, backV, verOf, h1, h2, protL_back (protL_ints .i64 xs), protL_back (protL_ints .i64 zs), Nat.add_comm] using this
attribute [local irreducible] aPlan aGet aIf aLoop aCall RetB NextB CallB CallG aCut aSet aAppend

def wo (xs : List Int) (a : Nat) : List Int := xs.take a ++ xs.drop (a + 1)
theorem wo_length {xs : List Int} {a : Nat} (h : a < xs.length) : (wo xs a).length = xs.length - 1 := by simp [wo]; omega
theorem map_cut (xs : List Int) (l m : Nat) : ((xs.map (AV.int .i64)).drop l).take m = ((xs.drop l).take m).map (.int .i64) := by simp
theorem l2Nums_cut {c n : Nat} {zs : List Int} {cells : List AV} {env : List AV} {rows : List Row} {ctr low : Nat} {k : AV → St → Prop} (hc : cells = zs.map (.int .i64)) (hn : n = zs.length) (hpre : zs.length ≤ 1048576) (h : k (.ref rows.length ctr 0 zs.length) ⟨env, rows ++ [⟨ctr, 3, 1, zs.map (.int .i64)⟩], ctr + 1, low⟩) :
    CallB Try.prog 111 ⟨env, rows, ctr, low⟩ [.sl c n cells] k := by
  subst hc; subst hn; exact l2Nums_call hpre h
theorem copyNums_cut {c n : Nat} {zs : List Int} {cells : List AV} {env : List AV} {rows : List Row} {ctr low : Nat} {k : AV → St → Prop} (hc : cells = zs.map (.int .i64)) (hn : n = zs.length) (hpre : zs.length ≤ 1048576) (h : k (.ref rows.length ctr 0 zs.length) ⟨env, rows ++ [⟨ctr, 3, 1, zs.map (.int .i64)⟩], ctr + 1, low⟩) :
    CallB Try.prog 113 ⟨env, rows, ctr, low⟩ [.sl c n cells] k := by
  subst hc; subst hn; exact copyNums_call hpre h
set_option maxRecDepth 10000 in
theorem l2Without_sound : Sound Try.prog 124 (fnL (ι := Nat × List Int × Nat) 3 (fun | (c, xs, a) => [.sl c xs.length (xs.map (.int .i64)), .int .i64 a]) (fun | (_, xs, a) => xs.length ≤ 1048576 ∧ a < xs.length) (fun | (_, xs, a) => wo xs a)) := by
  refine sound_of Try.func124 rfl (enters_of Try.func124 (by kernel_rfl) (by kernel_rfl)) ?_
  rintro ⟨c, xs, a⟩ hpre
  have hpre : xs.length ≤ 1048576 ∧ a < xs.length := hpre
  have hw : IntKind.i64.wrap ((a : Int) + 1) = ((a + 1 : Nat) : Int) := (IntWalk.i64_in _ (by omega)).trans (by omega)
  have hmax : maxLen = 9223372036854775807 := rfl
  conv => whnf
  repeat' (first
    | (refine And.intro (by omega) ?_; conv => whnf)
    | (refine And.intro (by rw [List.length_map]; omega) ?_; conv => whnf)
    | (refine callG_t ?_; conv => whnf)
    | (refine And.intro (pureL_take _ _ _) ?_; conv => whnf))
  have ew : (IntKind.i64.wrap ((a : Int) + 1)).toNat = a + 1 := by omega
  refine l2Nums_cut (zs := xs.take a) (by simp [List.map_take]) (by simp; omega) (by simp; omega) ?_
  conv => whnf
  repeat' (first
    | (refine And.intro (by omega) ?_; conv => whnf)
    | (refine And.intro (by rw [List.length_map]; omega) ?_; conv => whnf))
  refine append_sl (zs := xs.take a) (ws := xs.drop (a + 1)) rfl (by rw [ew, Nat.mul_one, Nat.mul_one, List.take_of_length_le (by simp), List.map_drop]) (by rw [ew]; simp) rfl (by simp; omega) (Nat.zero_le _) (fun e => ?_) (fun _ => ?_)
  · have e' : wo xs a = xs.take a := by unfold wo; rw [e, List.append_nil]
    conv => whnf
    repeat' (first
      | (refine aIf_t ?_; conv => whnf))
    exact retL rfl rfl (by simp [e']) (by simp [e'])
  · have e' : wo xs a = xs.take a ++ xs.drop (a + 1) := rfl
    conv => whnf
    repeat' (first
      | (refine aIf_t ?_; conv => whnf))
    exact retL rfl rfl rfl (by rw [ew]; simp [e'])
theorem l2Without_call {c : Nat} {xs : List Int} {a : Nat} {env : List AV} {rows : List Row} {ctr low : Nat} {k : AV → St → Prop} (hpre : xs.length ≤ 1048576 ∧ a < xs.length) (h : k (.ref rows.length ctr 0 (wo xs a).length) ⟨env, rows ++ [⟨ctr, 3, 1, (wo xs a).map (.int .i64)⟩], ctr + 1, low⟩) :
    CallB Try.prog 124 ⟨env, rows, ctr, low⟩ [.sl c xs.length (xs.map (.int .i64)), .int .i64 a] k := callL_in l2Without_sound (c, xs, a) hpre h

set_option maxRecDepth 10000 in
theorem l2Told_sound : Sound Try.prog 100 sTold := by
  refine sound_of Try.func100 rfl (enters_of Try.func100 (by kernel_rfl) (by kernel_rfl)) ?_
  rintro ⟨xs, zs⟩ -
  rcases tensor_or xs zs with ⟨ht, hx, hz⟩ | ht
  · conv => whnf
    dsimp only
    repeat' (first
      | (refine load_same ?_; conv => whnf)
      | (refine And.intro rfl (And.intro (List.cons_ne_nil _ _) ?_); conv => whnf)
      | (refine And.intro (Nat.le_of_ble_eq_true rfl) ?_; conv => whnf)
      | (refine callG_t ?_; conv => whnf)
      | (refine sTensorOk_call ?_; conv => whnf)
      | (refine takeN_in ?_; conv => whnf)
      | (refine cut_ints ?_; conv => whnf)
      | (refine set_force ?_; conv => whnf)
      | (refine And.intro (by kernel_rfl) ?_; conv => whnf)
      | (refine aIf_tt (by assumption) ?_; conv => whnf)
      | refine aIf_not ?_)
    exact retKeep2 (xs := xs) (zs := zs) ⟨rfl, .inl ⟨ht, rfl, rfl⟩⟩
  · conv => whnf
    dsimp only
    repeat' (first
      | (refine load_same ?_; conv => whnf)
      | (refine And.intro rfl (And.intro (List.cons_ne_nil _ _) ?_); conv => whnf)
      | (refine And.intro (Nat.le_of_ble_eq_true rfl) ?_; conv => whnf)
      | (refine callG_t ?_; conv => whnf)
      | (refine sTensorOk_call ?_; conv => whnf)
      | (refine takeN_in ?_; conv => whnf)
      | (refine cut_ints ?_; conv => whnf)
      | (refine set_force ?_; conv => whnf)
      | (refine And.intro (by kernel_rfl) ?_; conv => whnf)
      | (refine aIf_ff (by assumption) ?_; conv => whnf)
      | refine aIf_not ?_)
    refine retNew2 (xs := xs) (zs := zs) (ps := []) (qs := []) ?_ ?_ ?_ ⟨rfl, .inr ⟨ht, rfl, rfl⟩⟩
    all_goals (first | exact rfl | decide)
set_option maxRecDepth 10000 in
theorem orNone_sound : Sound Try.prog 107 sOrNone := by
  refine sound_of Try.func107 rfl (enters_of Try.func107 (by kernel_rfl) (by kernel_rfl)) ?_
  rintro ⟨xs, zs⟩ -
  rcases tensor_or xs zs with ⟨ht, hx, hz⟩ | ht
  · conv => whnf
    dsimp only
    repeat' (first
      | (refine load_same ?_; conv => whnf)
      | (refine And.intro (Nat.le_of_ble_eq_true rfl) ?_; conv => whnf)
      | (refine callG_t ?_; conv => whnf)
      | (refine iTensorOk_call ?_; conv => whnf)
      | (refine takeN_in ?_; conv => whnf)
      | (refine cut_ints ?_; conv => whnf)
      | (refine set_force ?_; conv => whnf)
      | (refine And.intro (by kernel_rfl) ?_; conv => whnf)
      | (refine aIf_tt (by assumption) ?_; conv => whnf)
      | refine aIf_not ?_)
    exact retKeep2 (xs := xs) (zs := zs) ⟨rfl, .inl ⟨ht, rfl, rfl⟩⟩
  · conv => whnf
    dsimp only
    repeat' (first
      | (refine load_same ?_; conv => whnf)
      | (refine And.intro (Nat.le_of_ble_eq_true rfl) ?_; conv => whnf)
      | (refine callG_t ?_; conv => whnf)
      | (refine iTensorOk_call ?_; conv => whnf)
      | (refine takeN_in ?_; conv => whnf)
      | (refine cut_ints ?_; conv => whnf)
      | (refine set_force ?_; conv => whnf)
      | (refine And.intro (by kernel_rfl) ?_; conv => whnf)
      | (refine aIf_ff (by assumption) ?_; conv => whnf)
      | refine aIf_not ?_)
    refine retNew2 (xs := xs) (zs := zs) (ps := []) (qs := []) ?_ ?_ ?_ ⟨rfl, .inr ⟨ht, rfl, rfl⟩⟩
    all_goals (first | exact rfl | decide)

theorem orNone_call {env : List AV} {rows : List Row} {ctr low τ1 τ2 v1 v2 n1 n2 : Nat} {k : AV → St → Prop} (xs zs : List Int)
    (h1 : rows[τ1]? = some ⟨v1, 3, 1, xs.map (.int .i64)⟩) (h2 : rows[τ2]? = some ⟨v2, 3, 1, zs.map (.int .i64)⟩) (hne : τ1 ≠ τ2) (e1 : n1 = xs.length) (e2 : n2 = zs.length)
    (ht : tensorOk xs zs = true → k (.tup [.agg [.ref τ1 v1 0 xs.length, .ref τ2 v2 0 zs.length], .bool true]) ⟨env, setRows rows [τ1, τ2] [xs.map (.int .i64), zs.map (.int .i64)], ctr + 1, low⟩)
    (hf : tensorOk xs zs = false → k (.tup [.agg [.ref rows.length ctr 0 0, .ref (rows.length + 1) ctr 0 0], .bool false]) ⟨env, setRows rows [τ1, τ2] [xs.map (.int .i64), zs.map (.int .i64)] ++ [⟨ctr, 3, 1, []⟩, ⟨ctr, 3, 1, []⟩], ctr + 1, low⟩) :
    CallG Try.prog 107 ⟨env, rows, ctr, low⟩ [.ref τ1 v1 0 n1, .ref τ2 v2 0 n2] k := by
  subst e1; subst e2
  refine toldCall xs zs (sp := sOrNone) (xs, zs) orNone_sound trivial rfl rfl h1 h2 hne ?_ ht hf
  have hb : (τ1 == τ2) = false := by simpa using hne
  have a1 : callArg ⟨env, rows, ctr, low⟩ [τ1, τ2] true (.ref τ1 v1 0 xs.length) = some (.ref 0 0 0 xs.length) := by simp [callArg, AV.ren, h1, List.idxOf, List.findIdx_cons]
  have a2 : callArg ⟨env, rows, ctr, low⟩ [τ1, τ2] true (.ref τ2 v2 0 zs.length) = some (.ref 1 0 0 zs.length) := by simp [callArg, AV.ren, h2, List.idxOf, List.findIdx_cons, hb]
  show (callArg ⟨env, rows, ctr, low⟩ [τ1, τ2] true (.ref τ1 v1 0 xs.length)).bind (fun u' => ((callArg ⟨env, rows, ctr, low⟩ [τ1, τ2] true (.ref τ2 v2 0 zs.length)).bind fun u'' => some [u'']).map (u' :: ·)) = _
  rw [a1, a2]
  rfl
theorem l2Told_call {env : List AV} {rows : List Row} {ctr low τ1 τ2 v1 v2 n1 n2 : Nat} {k : AV → St → Prop} (xs zs : List Int)
    (h1 : rows[τ1]? = some ⟨v1, 3, 1, xs.map (.int .i64)⟩) (h2 : rows[τ2]? = some ⟨v2, 3, 1, zs.map (.int .i64)⟩) (hne : τ1 ≠ τ2) (e1 : n1 = xs.length) (e2 : n2 = zs.length)
    (ht : tensorOk xs zs = true → k (.tup [.agg [.ref τ1 v1 0 xs.length, .ref τ2 v2 0 zs.length], .bool true]) ⟨env, setRows rows [τ1, τ2] [xs.map (.int .i64), zs.map (.int .i64)], ctr + 1, low⟩)
    (hf : tensorOk xs zs = false → k (.tup [.agg [.ref rows.length ctr 0 0, .ref (rows.length + 1) ctr 0 0], .bool false]) ⟨env, setRows rows [τ1, τ2] [xs.map (.int .i64), zs.map (.int .i64)] ++ [⟨ctr, 3, 1, []⟩, ⟨ctr, 3, 1, []⟩], ctr + 1, low⟩) :
    CallG Try.prog 100 ⟨env, rows, ctr, low⟩ [.agg [.ref τ1 v1 0 n1, .ref τ2 v2 0 n2]] k := by
  subst e1; subst e2
  refine toldCall xs zs (sp := sTold) (xs, zs) l2Told_sound trivial rfl rfl h1 h2 hne ?_ ht hf
  have hb : (τ1 == τ2) = false := by simpa using hne
  have a1 : callArg ⟨env, rows, ctr, low⟩ [τ1, τ2] true (.agg [.ref τ1 v1 0 xs.length, .ref τ2 v2 0 zs.length]) = some (.agg [.ref 0 0 0 xs.length, .ref 1 0 0 zs.length]) := by simp [callArg, AV.ren, Go.Am.renL, h1, h2, List.idxOf, List.findIdx_cons, hb]
  show (callArg ⟨env, rows, ctr, low⟩ [τ1, τ2] true (.agg [.ref τ1 v1 0 xs.length, .ref τ2 v2 0 zs.length])).bind (fun u' => some [u']) = _
  rw [a1]
  rfl
end Go.Proofs.Ytilimbdpdpfalaa

/- What is reckoned over all shapes and axes: where a number goes when it is summed. -/
namespace Go.Proofs.Ytilimbdpdpfalaa
set_option maxRecDepth 20000
open Go.RowKit Go.Am

def stpA (xs : List Int) (a : Nat) : Int := (strides xs).getD a 0
def blkA (xs : List Int) (a : Nat) : Int := stpA xs a * xs.getD a 0
def sumI (xs : List Int) (a k : Nat) : Int := (k : Int).tdiv (blkA xs a) * stpA xs a + (k : Int).tmod (stpA xs a)
def sumS (xs : List Int) (a k : Nat) : Int := idxTo (wo xs a) (wo (places xs k) a) (wo xs a).length
def cntM (xs : List Int) : Nat := (cntTo xs xs.length).toNat
def sumChk (xs : List Int) : Bool := (List.range xs.length).all fun a => shapeOk (wo xs a) && ((cntTo xs xs.length).tdiv (xs.getD a 0) == cntTo (wo xs a) (wo xs a).length) && decide (blkA xs a ≤ 64) && decide (1 ≤ blkA xs a) &&
  (List.range (cntM xs)).all fun k => decide (0 ≤ sumI xs a k) && decide (sumI xs a k < cntTo (wo xs a) (wo xs a).length) && (sumI xs a k == sumS xs a k) && decide (0 ≤ (k : Int).tdiv (blkA xs a) * stpA xs a) && decide ((k : Int).tdiv (blkA xs a) * stpA xs a ≤ 64)
theorem sumChk_2 : shapes2.all sumChk = true := by kernel_rfl
theorem sumChk_31 : (shapes3 1).all sumChk = true := by kernel_rfl
theorem sumChk_32 : (shapes3 2).all sumChk = true := by kernel_rfl
theorem sumChk_33 : (shapes3 3).all sumChk = true := by kernel_rfl
theorem sumChk_34 : (shapes3 4).all sumChk = true := by kernel_rfl
structure SumFacts (xs : List Int) (a : Nat) : Prop where
  sh : shapeOk (wo xs a) = true
  cnt : (cntTo xs xs.length).tdiv (xs.getD a 0) = cntTo (wo xs a) (wo xs a).length
  blk : 1 ≤ blkA xs a ∧ blkA xs a ≤ 64
  at_ : ∀ k : Nat, (k : Int) < cntTo xs xs.length → (0 ≤ sumI xs a k ∧ sumI xs a k < cntTo (wo xs a) (wo xs a).length) ∧ sumI xs a k = sumS xs a k ∧ 0 ≤ (k : Int).tdiv (blkA xs a) * stpA xs a ∧ (k : Int).tdiv (blkA xs a) * stpA xs a ≤ 64
theorem sum_facts {xs : List Int} (hs : shapeOk xs = true) {a : Nat} (ha : a < xs.length) : SumFacts xs a := by
  have h := shape_all sumChk_2 sumChk_31 sumChk_32 sumChk_33 sumChk_34 hs
  unfold sumChk at h
  rw [List.all_eq_true] at h
  have h := h a (List.mem_range.2 ha)
  simp only [Bool.and_eq_true, decide_eq_true_eq, beq_iff_eq, List.all_eq_true] at h
  obtain ⟨⟨⟨⟨h1, h2⟩, h3⟩, h4⟩, h5⟩ := h
  have hc := cnt64 hs (Nat.le_refl _)
  refine ⟨h1, h2, ⟨h4, h3⟩, fun k hk => ?_⟩
  obtain ⟨⟨⟨⟨a1, a2⟩, a3⟩, a4⟩, a5⟩ := h5 k (List.mem_range.2 (by unfold cntM; omega))
  exact ⟨⟨a1, a2⟩, a3, a4, a5⟩

/-- Sums, number by number. -/
def smTo (xs zs : List Int) (a : Nat) : Nat → List Int
  | 0 => List.replicate (cntTo (wo xs a) (wo xs a).length).toNat 0
  | k + 1 => (smTo xs zs a k).set (sumI xs a k).toNat (IntKind.i64.wrap ((smTo xs zs a k).getD (sumI xs a k).toNat 0 + zs.getD k 0))
theorem smTo_length (xs zs : List Int) (a : Nat) : ∀ k, (smTo xs zs a k).length = (cntTo (wo xs a) (wo xs a).length).toNat
  | 0 => by simp [smTo]
  | k + 1 => by rw [smTo, List.length_set]; exact smTo_length xs zs a k
def told (xs zs : List Int) : TM := if tensorOk xs zs = true then (xs, zs, true) else noT
theorem told_t {xs zs : List Int} (h : tensorOk xs zs = true) : told xs zs = (xs, zs, true) := if_pos h
theorem told_f {xs zs : List Int} (h : tensorOk xs zs = false) : told xs zs = noT := if_neg (by rw [h]; exact Bool.false_ne_true)
theorem told_len (xs zs : List Int) : (told xs zs).1.length ≤ 3 ∧ (told xs zs).2.1.length ≤ 64 := by
  rcases tensor_or xs zs with ⟨ht, hx, hz⟩ | ht
  · rw [told_t ht]; exact ⟨hx, hz.2⟩
  · rw [told_f ht]; exact ⟨Nat.zero_le _, Nat.zero_le _⟩
def sumM (xs zs : List Int) (i : Int) : TM := if tensorOk xs zs = true ∧ 0 ≤ i ∧ i < xs.length then told (wo xs i.toNat) (smTo xs zs i.toNat zs.length) else noT
theorem sumM_t {xs zs : List Int} {a : Nat} (h : tensorOk xs zs = true) (ha : a < xs.length) : sumM xs zs a = told (wo xs a) (smTo xs zs a zs.length) := by
  unfold sumM; rw [if_pos ⟨h, by omega, by omega⟩, Int.toNat_natCast]
theorem sumM_f1 {xs zs : List Int} {i : Int} (h : tensorOk xs zs = false) : sumM xs zs i = noT := if_neg (by rw [h]; exact fun h => Bool.false_ne_true h.1)
theorem sumM_f2 {xs zs : List Int} {i : Int} (h : ¬ (0 ≤ i ∧ i < xs.length)) : sumM xs zs i = noT := if_neg (fun h' => h h'.2)
theorem sumM_len (xs zs : List Int) (i : Int) : (sumM xs zs i).1.length ≤ 3 ∧ (sumM xs zs i).2.1.length ≤ 64 := by
  unfold sumM; split
  · exact told_len _ _
  · exact ⟨Nat.zero_le _, Nat.zero_le _⟩
end Go.Proofs.Ytilimbdpdpfalaa

/- Facts of the program that every law's claim wants. -/
namespace Go.Proofs.Ytilimbdpdpfalaa
set_option maxRecDepth 20000
open Go.RowKit Go.Am Go.WideShapes Go.ChangeShapes

theorem own_ : ownKnob Try.prog.godebug = none := by kernel_rfl
theorem laid_ : laidOutB Try.prog = true := by kernel_rfl
theorem uInts : Try.prog.underlying 46 = some (.slice 3) := by kernel_rfl
theorem uBytes : Try.prog.underlying 79 = some (.slice 5) := by kernel_rfl
theorem uByte : Try.prog.underlying 5 = some (.int .u8) := by kernel_rfl
theorem uInt : Try.prog.underlying 3 = some (.int .i64) := by kernel_rfl

end Go.Proofs.Ytilimbdpdpfalaa

/- Facts of the program about tensors. -/
namespace Go.Proofs.Ytilimbdpdpfalaa
set_option maxRecDepth 20000
open Go.RowKit Go.Am Go.WideShapes Go.ChangeShapes
theorem argT {av : AV} (h : ArgR Try.prog 99 av) : ∃ xs zs : List Int, av = .agg [.sl 1 xs.length (xs.map (.int .i64)), .sl 1 zs.length (zs.map (.int .i64))] := by
  obtain ⟨xs, zs, e, _, _⟩ := argRPair (t1 := 46) (e := 3) (by kernel_rfl) uInts uInt (by kernel_rfl) (by kernel_rfl) h
  exact ⟨xs, zs, e⟩
theorem argL {av : AV} (h : ArgR Try.prog 46 av) : ∃ zs : List Int, av = .sl 1 zs.length (zs.map (.int .i64)) := by
  obtain ⟨zs, e, _⟩ := argRInts uInts uInt h
  exact ⟨zs, e⟩
theorem argI {av : AV} (h : ArgR Try.prog 3 av) : ∃ n : Int, av = .int .i64 n ∧ (Lit.int .i64 n).wf = true := argRInt uInt h
theorem avs4 {avs : List AV} {p : Nat → AV → Prop} (hl : avs.length = 4) (h : ∀ j av, avs[j]? = some av → p j av) : ∃ a b c d, avs = [a, b, c, d] ∧ p 0 a ∧ p 1 b ∧ p 2 c ∧ p 3 d := by
  match avs, hl with
  | [a, b, c, d], _ => exact ⟨a, b, c, d, rfl, h 0 a rfl, h 1 b rfl, h 2 c rfl, h 3 d rfl⟩
end Go.Proofs.Ytilimbdpdpfalaa

/- Structs as a law's arguments: their fields. -/
namespace Go.Am
open Go.RowKit
variable {P : Program}
def fieldsAre (P : Program) (t : TypeId) (l : List (TypeId × Nat)) : Bool :=
  match P.underlying t with
  | some (.struct fs) => fs.toList.map (fun f => (f.type, f.offset)) == l
  | _ => false
theorem fields_ok {t : TypeId} {l : List (TypeId × Nat)} {us : List AV} (hp : fieldsAre P t l = true) (h : CellsOk P t us) : us.length = P.cellsOf t ∧ ∀ p ∈ l, CellsOk P p.1 ((us.drop p.2).take (P.cellsOf p.1)) := by
  unfold fieldsAre at hp
  split at hp
  case h_2 => cases hp
  rename_i fs hu
  have hf : fs.toList.map (fun f => (f.type, f.offset)) = l := by simpa using hp
  cases h with
  | int _ k' n ht hn => rw [hu] at ht; cases ht
  | bool _ b ht => rw [hu] at ht; cases ht
  | str _ s ht hs => rw [hu] at ht; cases ht
  | sl _ e' es ht hz hes => rw [hu] at ht; cases ht
  | struct _ fs' us ht hl hf' =>
    rw [hu] at ht; cases ht
    refine ⟨hl, fun p hp => ?_⟩
    rw [← hf] at hp
    obtain ⟨f, hfm, rfl⟩ := List.mem_map.1 hp
    exact hf' f hfm
theorem cells_int {t : TypeId} {k : IntKind} {us : List AV} (hu : P.underlying t = some (.int k)) (h : CellsOk P t us) : ∃ n : Int, us = [.int k n] ∧ (Lit.int k n).wf = true := by
  cases h with
  | int _ k' n ht hn => rw [hu] at ht; cases ht; exact ⟨n, rfl, hn⟩
  | bool _ b ht => rw [hu] at ht; cases ht
  | str _ s ht hs => rw [hu] at ht; cases ht
  | sl _ e' es ht hz hes => rw [hu] at ht; cases ht
  | struct _ fs us ht hl hf => rw [hu] at ht; cases ht
theorem flat_all {α : Type} {f : α → List AV} {q : α → Prop} : ∀ (es : List (List AV)), (∀ us ∈ es, ∃ x, us = f x ∧ q x) → ∃ l : List α, es.flatten = l.flatMap f ∧ l.length = es.length ∧ ∀ x ∈ l, q x
  | [], _ => ⟨[], rfl, rfl, fun x h => by simp at h⟩
  | us :: es, h => by
    obtain ⟨l, h1, h2, h3⟩ := flat_all es fun u hu => h u (List.mem_cons_of_mem _ hu)
    obtain ⟨x, rfl, hx⟩ := h us List.mem_cons_self
    exact ⟨x :: l, by simp [h1], by simp [h2], fun y hy => by
      rcases List.mem_cons.1 hy with rfl | hy
      · exact hx
      · exact h3 y hy⟩
theorem flat_one {α : Type} (f : α → AV) : ∀ (l : List α), l.flatMap (fun x => [f x]) = l.map f
  | [] => rfl
  | x :: l => by rw [List.flatMap_cons, flat_one f l]; rfl
theorem cells_slice {α : Type} {t e : TypeId} {us : List AV} {f : α → List AV} {q : α → Prop} (hu : P.underlying t = some (.slice e)) (h : CellsOk P t us) (he : ∀ us, CellsOk P e us → ∃ x, us = f x ∧ q x) : ∃ l : List α, us = [.sl 1 l.length (l.flatMap f)] ∧ ∀ x ∈ l, q x := by
  cases h with
  | int _ k' n ht hn => rw [hu] at ht; cases ht
  | bool _ b ht => rw [hu] at ht; cases ht
  | str _ s ht hs => rw [hu] at ht; cases ht
  | sl _ e' es ht hz hes =>
    rw [hu] at ht; cases ht
    obtain ⟨l, h1, h2, h3⟩ := flat_all (f := f) (q := q) es fun us hus => he us (hes us hus)
    exact ⟨l, by rw [h1, h2], h3⟩
  | struct _ fs us ht hl hf => rw [hu] at ht; cases ht
end Go.Am
namespace Go.Proofs.Ytilimbdpdpfalaa
set_option maxRecDepth 20000
open Go.RowKit Go.Am Go.WideShapes Go.ChangeShapes
set_option linter.unusedSimpArgs false
theorem getb_n {bs : List Bool} {k : Nat} {K : AV → Prop} (h : k < bs.length) (hK : K (.bool (bs.getD k false))) : aGet ((bs.map .bool).drop ((k : Int).toNat * 1)) 0 K :=
  ⟨_, by rw [Int.toNat_natCast, Nat.mul_one]; simp [List.getElem?_drop, List.getElem?_eq_getElem h, List.getD], hK⟩
theorem getb_n0 {bs : List Bool} {k : Nat} {K : AV → Prop} (h : k < bs.length) (hK : K (.bool (bs.getD k false))) : aGet ((bs.map .bool).drop (0 + (k : Int).toNat * 1)) 0 K := by
  rw [Nat.zero_add]; exact getb_n h hK
theorem setb_n {bs : List Bool} {k : Nat} {b : Bool} {K : List AV → Prop} (hK : K ((bs.set k b).map .bool)) (h : k < bs.length) : aSet (bs.map .bool) (0 + (k : Int).toNat * 1) [.bool b] K := set_bool (by rw [Int.toNat_natCast]; exact hK) (by omega)
theorem cut_bools {bs : List Bool} {k : List AV → Prop} {f : Nat} (hk : k (bs.map .bool)) : aCut (f + 1) (bs.map .bool) 0 (bs.length * 1) k := cut_all (by simp) (scalL_bools _) hk
theorem protL_bools (bs : List Bool) : protL (bs.map .bool) = true := scalL_prot (scalL_bools bs)
theorem uIIs : Try.prog.underlying 22 = some (.slice 46) := by kernel_rfl
theorem cell_int1 : Try.prog.cellsOf 3 = 1 := by kernel_rfl
theorem cell_ints1 : Try.prog.cellsOf 46 = 1 := by kernel_rfl
theorem cell_iis1 : Try.prog.cellsOf 22 = 1 := by kernel_rfl
/-- A list more in a row of lists, which grows. -/
theorem append_ll {env : List AV} {rows : List Row} {ctr low τ ver n τ' ver' : Nat} {A : List AV} {u : AV} {k : AV → St → Prop} (hr : rows[τ]? = some ⟨ver, 46, 1, A⟩) (hn : n = A.length) (hr' : rows[τ']? = some ⟨ver', 46, 1, [u]⟩) (hu : u.isOwn = false) (hle : n ≤ 1000) (hlow : low ≤ τ)
    (hk : k (.ref τ ctr 0 (n + 1)) ⟨env, rows.set τ ⟨ctr, 46, 1, A ++ [u]⟩, ctr + 1, low⟩) : aAppend Try.prog ⟨env, rows, ctr, low⟩ 22 (.ref τ ver 0 n) (.ref τ' ver' 0 1) k := by
  have hb : (bsz Try.prog 46) = some 24 := by kernel_rfl
  have hz : zeroCellsA Try.prog 46 = some [.nil] := by kernel_rfl
  have hty : Try.prog.underlying 22 = some (.slice 46) := by kernel_rfl
  have hs : ∀ K : Nat → Prop, K 1 → aSz Try.prog 46 K := fun K h => by
    have : tsz Try.prog 46 = some 1 := by kernel_rfl
    unfold aSz; rw [this]; exact h
  subst hn
  unfold aAppend
  rw [hty]
  simp only
  rw [hz]
  simp only
  refine hs _ ?_
  unfold aElems aRow
  simp only [hr']
  rw [if_pos trivial, if_pos (.inr trivial)]
  refine ⟨⟨by simp, by simp [hu]⟩, ⟨rfl, by rw [hb]; rfl, by rw [hb]; decide⟩, ?_⟩
  simp only [hr]
  rw [if_pos trivial, if_pos (by simp)]
  refine ⟨by simp, fun h => by omega, fun _ h => by exfalso; omega, fun _ _ => ⟨hlow, by rw [hb]; simp only [Option.getD_some]; omega, ?_⟩⟩
  have e : A.take (A.length * 1) = A := List.take_of_length_le (by omega)
  rw [e]
  simpa using hk
/-- The same in a row that has room. -/
theorem append_lr {env : List AV} {rows : List Row} {ctr low τ ver n τ' ver' r : Nat} {A : List AV} {u : AV} {k : AV → St → Prop} (hr : rows[τ]? = some ⟨ver, 46, 1, A ++ List.replicate r .nil⟩) (hn : n = A.length) (hr' : rows[τ']? = some ⟨ver', 46, 1, [u]⟩) (hu : u.isOwn = false) (hle : 1 ≤ r)
    (hk : k (.ref τ ver 0 (n + 1)) ⟨env, rows.set τ ⟨ver, 46, 1, A ++ ([u] ++ List.replicate (r - 1) .nil)⟩, ctr, low⟩) : aAppend Try.prog ⟨env, rows, ctr, low⟩ 22 (.ref τ ver 0 n) (.ref τ' ver' 0 1) k := by
  have hb : (bsz Try.prog 46) = some 24 := by kernel_rfl
  have hz : zeroCellsA Try.prog 46 = some [.nil] := by kernel_rfl
  have hty : Try.prog.underlying 22 = some (.slice 46) := by kernel_rfl
  have hs : ∀ K : Nat → Prop, K 1 → aSz Try.prog 46 K := fun K h => by
    have : tsz Try.prog 46 = some 1 := by kernel_rfl
    unfold aSz; rw [this]; exact h
  subst hn
  unfold aAppend
  rw [hty]
  simp only
  rw [hz]
  simp only
  refine hs _ ?_
  unfold aElems aRow
  simp only [hr']
  rw [if_pos trivial, if_pos (.inr trivial)]
  refine ⟨⟨by simp, by simp [hu]⟩, ⟨rfl, by rw [hb]; rfl, by rw [hb]; decide⟩, ?_⟩
  simp only [hr]
  rw [if_pos trivial, if_pos (by simp)]
  refine ⟨by simp, fun h => by omega, fun _ _ => ?_, fun _ h => ?_⟩
  · have e1 : (A ++ List.replicate r AV.nil).take (A.length * 1) = A := by rw [Nat.mul_one]; exact List.take_left
    have e2 : (A ++ List.replicate r AV.nil).drop (A.length * 1 + [u].length) = List.replicate (r - 1) AV.nil := by
      rw [Nat.mul_one, ← List.drop_drop, List.drop_left, List.drop_replicate]; rfl
    simp only [Nat.zero_mul, List.drop_zero, Nat.one_mul, List.take_of_length_le (show [u].length ≤ 1 from Nat.le_refl _)]
    rw [e1, e2]
    simpa [St.setRow, Row.putC] using hk
  · exfalso; simp at h; omega
end Go.Proofs.Ytilimbdpdpfalaa
