import Derived.Test.YtjmdhfjemaoebaaGreatM01x15
import Derived.Test.YtjmdhfjemaoebaaGreatM01x13
namespace Go.Proofs.YtjmdhfjemaoebaaGreat
set_option maxRecDepth 20000
open Go.RowKit Go.Am
attribute [local irreducible] aPlan aGet aIf aLoop aCall RetB NextB CallB CallG aCut aSet
theorem turnTo_in {zs : List Int} {n : Int} : ∀ {m : Nat} {bs : List Bool}, turnTo zs n m = some bs → ∀ k, k < m → 0 ≤ zs.getD k 0 ∧ zs.getD k 0 < n
  | 0, _, _, k, hk => absurd hk (Nat.not_lt_zero _)
  | m + 1, bs, h, k, hk => by
    unfold turnTo at h
    split at h
    · rename_i bs' h'
      split at h
      · rename_i hc
        rcases Nat.lt_succ_iff_lt_or_eq.1 hk with h1 | rfl
        · exact turnTo_in h' k h1
        · exact ⟨hc.1, hc.2.1⟩
      · cases h
    · cases h
theorem turnOk_in {zs : List Int} {n : Int} (h : turnOk zs n = true) : (n ≤ 3 ∧ (zs.length : Int) = n) ∧ ∀ k, k < zs.length → 0 ≤ zs.getD k 0 ∧ zs.getD k 0 < n := by
  unfold turnOk at h
  simp only [Bool.and_eq_true, decide_eq_true_iff] at h
  obtain ⟨bs, hb⟩ := Option.isSome_iff_exists.1 h.2
  exact ⟨h.1, turnTo_in hb⟩
def backTo (zs : List Int) : Nat → List Int
  | 0 => List.replicate zs.length 0
  | k + 1 => (backTo zs k).set (zs.getD k 0).toNat (k : Int)
def backOk (zs : List Int) : Bool := turnOk zs zs.length
def backL (zs : List Int) : List Int := if backOk zs = true then backTo zs zs.length else []
end Go.Proofs.YtjmdhfjemaoebaaGreat
namespace Go.Proofs.YtjmdhfjemaoebaaGreat
set_option maxRecDepth 20000
open Go.RowKit Go.Am
attribute [local irreducible] aPlan aGet aIf aLoop aCall RetB NextB CallB CallG aCut aSet
def turned (xs ax : List Int) : List Int := ax.map fun a => xs.getD a.toNat 0
theorem turned_length (xs ax : List Int) : (turned xs ax).length = ax.length := by simp [turned]
theorem turned_getD {xs ax : List Int} {j : Nat} (h : j < ax.length) : (turned xs ax).getD j 0 = xs.getD (ax.getD j 0).toNat 0 := by
  simp [turned, List.getD, List.getElem?_map, List.getElem?_eq_getElem h]
def tsOk (xs ax : List Int) : Bool := shapeOk xs && turnOk ax xs.length
def tsL (xs ax : List Int) : List Int := if tsOk xs ax = true then turned xs ax else []
theorem tsL_t {xs ax : List Int} (h : shapeOk xs = true) (h' : turnOk ax xs.length = true) : tsL xs ax = turned xs ax ∧ true = tsOk xs ax := ⟨if_pos (by unfold tsOk; rw [h, h']; rfl), by unfold tsOk; rw [h, h']; rfl⟩
theorem tsL_f1 {xs ax : List Int} (h : shapeOk xs = false) : tsL xs ax = [] ∧ false = tsOk xs ax := ⟨if_neg (by unfold tsOk; rw [h, Bool.false_and]; decide), by unfold tsOk; rw [h]; rfl⟩
theorem tsL_f2 {xs ax : List Int} (h' : turnOk ax xs.length = false) : tsL xs ax = [] ∧ false = tsOk xs ax := ⟨if_neg (by unfold tsOk; rw [h', Bool.and_false]; decide), by unfold tsOk; rw [h', Bool.and_false]⟩
def sTurnShape : CSpec := fnLB (ι := Nat × List Int × Nat × List Int) 3 (fun | (c, xs, d, ax) => [.sl c xs.length (xs.map (.int .i64)), .sl d ax.length (ax.map (.int .i64))]) (fun | (_, xs, _, ax) => xs.length ≤ 1048576 ∧ ax.length ≤ 1048576) (fun | (_, xs, _, ax) => tsL xs ax) (fun | (_, xs, _, ax) => tsOk xs ax)
theorem ts_end {env : List AV} {rows : List Row} {ctr τ ver : Nat} {xs ax zs' : List Int} {b : Bool} {r : Row} {n : Nat} (e1 : tsL xs ax = zs' ∧ b = tsOk xs ax) (hr : rows[τ]? = some r) (hv : r.ver = ver) (e : r = ⟨ver, 3, 1, zs'.map (.int .i64)⟩) (hn : n = zs'.length) :
    RetB ⟨env, rows, ctr, 0⟩ [] (fun r ic news => r = .tup [.ref 0 0 0 (tsL xs ax).length, .bool (tsOk xs ax)] ∧ ic = [] ∧ news = [⟨0, 3, 1, (tsL xs ax).map (.int .i64)⟩]) (.tup [.ref τ ver 0 n, .bool b]) := by
  rw [e1.1]; exact retLB hr hv e hn e1.2
theorem pickNums_sound : Sound Tryz.prog 175 (fnL (ι := Nat × List Int × Nat × List Int) 3 (fun | (c, xs, d, ax) => [.sl c xs.length (xs.map (.int .i64)), .sl d ax.length (ax.map (.int .i64))]) (fun | (_, xs, _, ax) => ax.length ≤ 1048576 ∧ ∀ j, j < ax.length → 0 ≤ ax.getD j 0 ∧ ax.getD j 0 < xs.length) (fun | (_, xs, _, ax) => turned xs ax)) := by
  refine sound_of Tryz.func175 rfl (enters_of Tryz.func175 (by kernel_rfl) (by kernel_rfl)) ?_
  rintro ⟨c, xs, d, ax⟩ hpre
  obtain ⟨hpl, hin⟩ : ax.length ≤ 1048576 ∧ ∀ j, j < ax.length → 0 ≤ ax.getD j 0 ∧ ax.getD j 0 < xs.length := hpre
  have hmax : maxLen = 9223372036854775807 := rfl
  conv => whnf
  repeat' (first
    | ((first | refine fun (_ : _ ≤ maxLen) => ?_ | refine And.intro (And.intro (Int.le_refl _) (And.intro (by kernel_rfl) (And.intro rfl (by kernel_rfl)))) (And.intro (And.intro (by omega) (And.intro (bytes_le (b := 8) rfl (by omega)) (by omega))) ?_) | refine append_same ?_); conv => whnf))
  refine loop_u (ι := Nat × List Int) [true, false, false, false, false, true, false, false, false, false, false, true, true, true, false, false, false, false, false, false, false, false, false, false, false, false, false] (fun | (k, _) => [(13, .int .i64 k)]) (fun | (_, ws) => [(1, ws.map (.int .i64))]) (fun | (k, ws) => k ≤ ax.length ∧ ws.length = ax.length ∧ ∀ j, j < k → ws.getD j 0 = xs.getD (ax.getD j 0).toNat 0) (fun x => ax.length - x.1) ((0, List.replicate ax.length 0)) ⟨Nat.zero_le _, by simp, fun j hj => absurd hj (Nat.not_lt_zero _)⟩ ?_ ?_
  · conv => whnf
    repeat' (first
      | exact trivial | exact rfl
      | exact pureL_ints _ _ | exact Or.inl (And.intro rfl rfl)
      | exact le_ints (rep_ints _ _) | refine And.intro ?_ ?_
      | exact Nat.le_of_ble_eq_true rfl)
  · rintro ⟨k, ws⟩ ⟨hk, hl, hall⟩
    have hk : k ≤ ax.length := hk
    have hl : ws.length = ax.length := hl
    have hall : ∀ j, j < k → ws.getD j 0 = xs.getD (ax.getD j 0).toNat 0 := hall
    have hink := hin k
    by_cases hlt : k < ax.length
    · have hink := hink hlt
      conv => whnf
      repeat' (first
        | ((first | refine get_nat (by omega) ?_ | refine get_int (by omega) ?_ | refine And.intro (by omega) ?_ | refine append_same ?_ | refine And.intro rfl (And.intro rfl (And.intro (by first | omega | (rw [List.length_map]; omega)) ?_)) | refine set_nat ?_ (by omega)); conv => whnf) | (refine aIf_dec (fun _ => ?_) (fun _ => ?_) <;> conv => whnf))
      all_goals (first | (exfalso; omega) | skip)
      refine next_u (k + 1, ws.set k (xs.getD (ax.getD k 0).toNat 0)) (show ax.length - (k + 1) < ax.length - k by omega) ⟨(show k + 1 ≤ ax.length by omega), by simpa using hl, fun j hj => ?_⟩ ?_
      · have hj : j < k + 1 := hj
        show (ws.set k (xs.getD (ax.getD k 0).toNat 0)).getD j 0 = _
        rw [getD_set (by omega)]
        split
        · rename_i e; rw [e]
        · exact hall j (by omega)
      · conv => whnf
        repeat' (first
          | exact trivial | exact rfl
          | exact pureL_ints _ _ | exact Or.inl (And.intro rfl rfl)
          | exact le_ints rfl | refine And.intro ?_ ?_
          | exact Nat.le_of_ble_eq_true rfl | exact int_eq (by rw [IntWalk.i64_in _ (by omega)] <;> omega))
    · have e : k = ax.length := by omega
      have e : ws = turned xs ax := getD_ext (by rw [turned_length, hl]) fun j hj => by
        rw [turned_length] at hj
        rw [hall j (by omega), turned_getD hj]
      subst e
      conv => whnf
      repeat' (first
        | ((first | refine get_nat (by omega) ?_ | refine And.intro (by omega) ?_ | refine append_same ?_ | refine set_nat ?_ (by omega)); conv => whnf) | (refine aIf_dec (fun _ => ?_) (fun _ => ?_) <;> conv => whnf))
      all_goals (first | (exfalso; omega) | skip)
      exact retL rfl rfl rfl hl.symm
theorem pickNums_call {c d : Nat} {xs ax : List Int} {env : List AV} {rows : List Row} {ctr low : Nat} {k : AV → St → Prop} (hpre : ax.length ≤ 1048576 ∧ ∀ j, j < ax.length → 0 ≤ ax.getD j 0 ∧ ax.getD j 0 < xs.length) (h : k (.ref rows.length ctr 0 (turned xs ax).length) ⟨env, rows ++ [⟨ctr, 3, 1, (turned xs ax).map (.int .i64)⟩], ctr + 1, low⟩) :
    CallB Tryz.prog 175 ⟨env, rows, ctr, low⟩ [.sl c xs.length (xs.map (.int .i64)), .sl d ax.length (ax.map (.int .i64))] k := callL_in pickNums_sound (c, xs, d, ax) hpre h
set_option maxRecDepth 10000 in
theorem iTurnShape_sound : Sound Tryz.prog 186 sTurnShape := by
  refine sound_of Tryz.func186 rfl (enters_of Tryz.func186 (by kernel_rfl) (by kernel_rfl)) ?_
  rintro ⟨c, xs, d, ax⟩ hpre
  have hpre : xs.length ≤ 1048576 ∧ ax.length ≤ 1048576 := hpre
  cases hs : shapeOk xs with
  | false =>
    conv => whnf
    repeat' (first
      | ((first | refine aIf_t ?_ | refine aIf_f ?_ | refine callG_t ?_ | refine append_same ?_ | refine And.intro (pureL_ints _ _) ?_ | refine iShapeOk_call ?_ | refine aIf_ff (by assumption) ?_); conv => whnf) | refine aIf_eqf ?_
      | refine aIf_not ?_)
    exact ts_end (tsL_f1 hs) rfl rfl rfl rfl
  | true =>
    cases ht : turnOk ax xs.length with
    | false =>
      conv => whnf
      repeat' (first
        | ((first | refine aIf_t ?_ | refine aIf_f ?_ | refine fun (_ : _ ≤ maxLen) => ?_ | refine callG_t ?_ | refine append_same ?_ | refine And.intro (pureL_ints _ _) ?_ | refine iShapeOk_call ?_ | refine iTurnOk_call ?_ | refine aIf_tt (by assumption) ?_ | refine aIf_ff (by assumption) ?_); conv => whnf) | refine aIf_eqf ?_
        | refine aIf_not ?_)
      exact ts_end (tsL_f2 ht) rfl rfl rfl rfl
    | true =>
      have hin := (turnOk_in ht).2
      conv => whnf
      repeat' (first
        | ((first | refine aIf_t ?_ | refine aIf_f ?_ | refine fun (_ : _ ≤ maxLen) => ?_ | refine callG_t ?_); conv => whnf) | (refine pickNums_call (by first | omega | assumption | (refine ⟨?_, ?_⟩ <;> first | assumption | omega) | (refine ⟨?_, ?_, ?_⟩ <;> first | assumption | omega)) ?_; conv => whnf) | ((first | refine append_same ?_ | refine And.intro (pureL_ints _ _) ?_ | refine iShapeOk_call ?_ | refine iTurnOk_call ?_ | refine aIf_tt (by assumption) ?_); conv => whnf) | refine aIf_eqf ?_
        | refine aIf_not ?_)
      exact ts_end (tsL_t hs ht) rfl rfl rfl rfl
end Go.Proofs.YtjmdhfjemaoebaaGreat
namespace Go.Proofs.YtjmdhfjemaoebaaGreat
set_option maxRecDepth 20000
open Go.RowKit Go.Am
theorem append_int {env : List AV} {rows : List Row} {ctr low τ ver n τ2 ver2 : Nat} {zs : List Int} {z : Int} {k : AV → St → Prop} (hr : rows[τ]? = some ⟨ver, 3, 1, zs.map (.int .i64)⟩) (hr2 : rows[τ2]? = some ⟨ver2, 3, 1, [.int .i64 z]⟩) (hn : n = zs.length) (hle : n ≤ 1000000) (hlow : low ≤ τ)
    (hk : k (.ref τ ctr 0 (n + 1)) ⟨env, rows.set τ ⟨ctr, 3, 1, (zs ++ [z]).map (.int .i64)⟩, ctr + 1, low⟩) : aAppend Tryz.prog ⟨env, rows, ctr, low⟩ 38 (.ref τ ver 0 n) (.ref τ2 ver2 0 1) k := by
  have hb : (bsz Tryz.prog 3) = some 8 := by kernel_rfl
  have hz : zeroCellsA Tryz.prog 3 = some [.int .i64 0] := by kernel_rfl
  have hu : Tryz.prog.underlying 38 = some (.slice 3) := by kernel_rfl
  have hs : ∀ K : Nat → Prop, K 1 → aSz Tryz.prog 3 K := fun K h => by
    have : tsz Tryz.prog 3 = some 1 := by kernel_rfl
    unfold aSz; rw [this]; exact h
  unfold aAppend
  rw [hu]
  simp only
  rw [hz]
  simp only
  refine hs _ ?_
  unfold aElems aRow
  simp only [hr2]
  rw [if_pos trivial, if_pos (.inr trivial)]
  refine ⟨⟨Nat.le_refl _, rfl⟩, ⟨rfl, by rw [hb]; rfl, by rw [hb]; decide⟩, ?_⟩
  simp only [hr]
  rw [if_pos trivial, if_pos (by simp)]
  refine ⟨by simp [hn], fun h => absurd h (by decide), fun _ h => ?_, fun _ _ => ⟨hlow, by rw [hb]; simp only [Option.getD_some]; omega, ?_⟩⟩
  · exfalso; simp at h; omega
  · have e : (zs.map (AV.int .i64)).take n = zs.map (.int .i64) := List.take_of_length_le (by simp [hn])
    simpa [e] using hk
attribute [local irreducible] aPlan aGet aIf aLoop aCall RetB NextB CallB CallG aCut aSet aAppend
theorem take_next {l : List Int} {k : Nat} (h : k < l.length) : l.take k ++ [l.getD k 0] = l.take (k + 1) := by
  rw [List.take_add_one, List.getElem?_eq_getElem h]
  simp [List.getD, List.getElem?_eq_getElem h]
set_option maxRecDepth 10000 in
theorem l1Turn_sound : Sound Tryz.prog 128 (fnL (ι := Nat × List Int × Nat × List Int) 3 (fun | (c, xs, d, ax) => [.sl c xs.length (xs.map (.int .i64)), .sl d ax.length (ax.map (.int .i64))]) (fun | (_, xs, _, ax) => ax.length ≤ 3 ∧ ∀ k, k < ax.length → 0 ≤ ax.getD k 0 ∧ ax.getD k 0 < xs.length) (fun | (_, xs, _, ax) => turned xs ax)) := by
  refine sound_of Tryz.func128 rfl (enters_of Tryz.func128 (by kernel_rfl) (by kernel_rfl)) ?_
  rintro ⟨c, xs, d, ax⟩ ⟨h3, hin⟩
  conv => whnf
  repeat' (first
    | ((first | refine append_same ?_ | refine And.intro (And.intro (by kernel_rfl) (And.intro rfl (Nat.le_of_ble_eq_true rfl))) ?_); conv => whnf))
  refine loop_in (ι := Nat) (fun k => ⟨[.sl c xs.length (xs.map (.int .i64)), .sl d ax.length (ax.map (.int .i64)), .un, .un, .un, .ref 1 3 0 k, .int .i64 k, .un, .un, .un, .un, .un, .un, .un, .un, .un, .un, .un, .un, .un, .un, .un, .un, .un, .un], [⟨1, 3, 1, []⟩, ⟨3, 3, 1, ((turned xs ax).take k).map (.int .i64)⟩], 4, 0⟩)
    (fun k => k ≤ ax.length) (fun k => ax.length - k) 0 (Nat.zero_le _) ?_ ?_
  · repeat' (first
      | exact trivial | exact rfl
      | exact pureL_ints _ _ | exact Or.inl (And.intro rfl rfl)
      | refine And.intro ?_ ?_ | exact Nat.le_of_ble_eq_true rfl)
  · intro k hk
    have hk : k ≤ ax.length := hk
    have hin := hin k
    conv => whnf
    repeat' (first
      | ((first | refine fun (_ : _ ≤ maxLen) => ?_ | refine get_nat (by omega) ?_ | refine get_int (by omega) ?_ | refine And.intro (by omega) ?_ | refine append_same ?_ | refine append_int rfl rfl (by first | rfl | (simp only [List.length_take, turned_length]; omega)) (by omega) (Nat.le_of_ble_eq_true rfl) ?_ | refine And.intro (And.intro (by kernel_rfl) (And.intro rfl (Nat.le_of_ble_eq_true rfl))) ?_); conv => whnf) | (refine aIf_dec (fun _ => ?_) (fun _ => ?_) <;> conv => whnf))
    · have e := take_next (l := turned xs ax) (k := k) (by rw [turned_length]; omega)
      rw [turned_getD (by omega)] at e
      rw [e]
      refine next_in (k + 1) (show ax.length - (k + 1) < ax.length - k by omega) (by omega) ?_
      repeat' (first
        | exact trivial | exact rfl
        | exact pureL_ints _ _ | exact Or.inl (And.intro rfl rfl)
        | exact le_ints rfl | refine And.intro ?_ ?_
        | exact Nat.le_of_ble_eq_true rfl | exact int_eq (by rw [IntWalk.i64_in _ (by omega)] <;> omega))
    · have e : k = ax.length := by omega
      subst e
      have e : (turned xs ax).take ax.length = turned xs ax := List.take_of_length_le (by rw [turned_length]; exact Nat.le_refl _)
      rw [e]
      exact retL rfl rfl rfl (turned_length xs ax).symm
theorem l1Turn_call {c d : Nat} {xs ax : List Int} {env : List AV} {rows : List Row} {ctr low : Nat} {k : AV → St → Prop} (hpre : ax.length ≤ 3 ∧ ∀ k, k < ax.length → 0 ≤ ax.getD k 0 ∧ ax.getD k 0 < xs.length) (hk : k (.ref rows.length ctr 0 (turned xs ax).length) ⟨env, rows ++ [⟨ctr, 3, 1, (turned xs ax).map (.int .i64)⟩], ctr + 1, low⟩) :
    CallB Tryz.prog 128 ⟨env, rows, ctr, low⟩ [.sl c xs.length (xs.map (.int .i64)), .sl d ax.length (ax.map (.int .i64))] k := callL_in l1Turn_sound (c, xs, d, ax) hpre hk
set_option maxRecDepth 10000 in
theorem sTurnShape_sound : Sound Tryz.prog 144 sTurnShape := by
  refine sound_of Tryz.func144 rfl (enters_of Tryz.func144 (by kernel_rfl) (by kernel_rfl)) ?_
  rintro ⟨c, xs, d, ax⟩ hpre
  have hpre : xs.length ≤ 1048576 ∧ ax.length ≤ 1048576 := hpre
  by_cases ht : turnOk ax xs.length = true
  · have hin := turnOk_in ht
    have h3 : ax.length ≤ 3 := by omega
    have hcall := And.intro h3 hin.2
    conv => whnf
    repeat' (first
      | ((first | refine aIf_t ?_ | refine aIf_f ?_ | refine fun (_ : _ ≤ maxLen) => ?_ | refine callG_t ?_ | refine append_same ?_ | refine And.intro (pureL_ints _ _) ?_ | refine sShapeOk_call ?_ | refine l1Turn_call (by assumption) ?_ | refine sTurnOk_call ?_ | refine aIf_tt (by assumption) ?_); conv => whnf) | refine aIf_eqf ?_
      | refine aIf_not ?_ | (refine aIf_in (fun _ => ?_) (fun _ => ?_) <;> conv => whnf))
    all_goals (first
      | (rename_i h; rw [ht] at h; exact Bool.noConfusion h) | exact ts_end (tsL_t (by assumption) ht) rfl rfl rfl rfl
      | exact ts_end (tsL_f1 (by assumption)) rfl rfl rfl rfl)
  · have ht : turnOk ax xs.length = false := by simpa using ht
    conv => whnf
    repeat' (first
      | ((first | refine aIf_t ?_ | refine aIf_f ?_ | refine fun (_ : _ ≤ maxLen) => ?_ | refine callG_t ?_ | refine append_same ?_ | refine And.intro (pureL_ints _ _) ?_ | refine sShapeOk_call ?_ | refine sTurnOk_call ?_ | refine aIf_ff (by assumption) ?_); conv => whnf) | refine aIf_eqf ?_
      | refine aIf_not ?_ | (refine aIf_in (fun _ => ?_) (fun _ => ?_) <;> conv => whnf))
    all_goals (first
      | (rename_i h; rw [ht] at h; exact Bool.noConfusion h) | exact ts_end (tsL_f2 ht) rfl rfl rfl rfl)
theorem iTurnShape_call {c d : Nat} {xs ax : List Int} {env : List AV} {rows : List Row} {ctr low : Nat} {k : AV → St → Prop} (hpre : xs.length ≤ 1048576 ∧ ax.length ≤ 1048576) (hk : k (.tup [.ref rows.length ctr 0 (tsL xs ax).length, .bool (tsOk xs ax)]) ⟨env, rows ++ [⟨ctr, 3, 1, (tsL xs ax).map (.int .i64)⟩], ctr + 1, low⟩) :
    CallB Tryz.prog 186 ⟨env, rows, ctr, low⟩ [.sl c xs.length (xs.map (.int .i64)), .sl d ax.length (ax.map (.int .i64))] k := callLB_in iTurnShape_sound (c, xs, d, ax) hpre hk
theorem sTurnShape_call {c d : Nat} {xs ax : List Int} {env : List AV} {rows : List Row} {ctr low : Nat} {k : AV → St → Prop} (hpre : xs.length ≤ 1048576 ∧ ax.length ≤ 1048576) (hk : k (.tup [.ref rows.length ctr 0 (tsL xs ax).length, .bool (tsOk xs ax)]) ⟨env, rows ++ [⟨ctr, 3, 1, (tsL xs ax).map (.int .i64)⟩], ctr + 1, low⟩) :
    CallB Tryz.prog 144 ⟨env, rows, ctr, low⟩ [.sl c xs.length (xs.map (.int .i64)), .sl d ax.length (ax.map (.int .i64))] k := callLB_in sTurnShape_sound (c, xs, d, ax) hpre hk
end Go.Proofs.YtjmdhfjemaoebaaGreat
namespace Go.Proofs.YtjmdhfjemaoebaaGreat
set_option maxRecDepth 20000
open Go.RowKit Go.Am
theorem append_sl {env : List AV} {rows : List Row} {ctr low τ ver n c m : Nat} {zs ws : List Int} {cells : List AV} {k : AV → St → Prop} (hr : rows[τ]? = some ⟨ver, 3, 1, zs.map (.int .i64)⟩) (hc : cells = ws.map (.int .i64)) (hm : m = ws.length) (hn : n = zs.length) (hle : n + m ≤ 4000000) (hlow : low ≤ τ)
    (h0 : ws = [] → k (.ref τ ver 0 n) ⟨env, rows, ctr, low⟩)
    (hk : ws ≠ [] → k (.ref τ ctr 0 (n + m)) ⟨env, rows.set τ ⟨ctr, 3, 1, (zs ++ ws).map (.int .i64)⟩, ctr + 1, low⟩) : aAppend Tryz.prog ⟨env, rows, ctr, low⟩ 38 (.ref τ ver 0 n) (.sl c m cells) k := by
  have hb : (bsz Tryz.prog 3) = some 8 := by kernel_rfl
  have hz : zeroCellsA Tryz.prog 3 = some [.int .i64 0] := by kernel_rfl
  have hu : Tryz.prog.underlying 38 = some (.slice 3) := by kernel_rfl
  have hs : ∀ K : Nat → Prop, K 1 → aSz Tryz.prog 3 K := fun K h => by
    have : tsz Tryz.prog 3 = some 1 := by kernel_rfl
    unfold aSz; rw [this]; exact h
  subst hn; subst hm; subst hc
  unfold aAppend
  rw [hu]
  simp only
  rw [hz]
  simp only
  refine hs _ ?_
  unfold aElems aRow
  refine ⟨by simp, ⟨rfl, by rw [hb]; rfl, by rw [hb]; decide⟩, ?_⟩
  simp only [hr]
  rw [if_pos trivial, if_pos (by simp)]
  refine ⟨by simp, fun h => h0 (List.eq_nil_of_length_eq_zero h), fun h0' h => ?_, fun h1 _ => ⟨hlow, by rw [hb]; simp only [Option.getD_some]; omega, ?_⟩⟩
  · exfalso; simp at h; omega
  · have e : (zs.map (AV.int .i64)).take zs.length = zs.map (.int .i64) := List.take_of_length_le (by simp)
    have hne : ws ≠ [] := fun e => by subst e; simp at h1
    simpa [e] using hk hne
attribute [local irreducible] aPlan aGet aIf aLoop aCall RetB NextB CallB CallG aCut aSet aAppend
set_option maxRecDepth 10000 in
theorem copyNums_sound : Sound Tryz.prog 103 (fnL (ι := Nat × List Int) 3 (fun | (c, zs) => [.sl c zs.length (zs.map (.int .i64))]) (fun | (_, zs) => zs.length ≤ 1048576) (fun | (_, zs) => zs)) := by
  refine sound_of Tryz.func103 rfl (enters_of Tryz.func103 (by kernel_rfl) (by kernel_rfl)) ?_
  rintro ⟨c, zs⟩ hpre
  have hpre : zs.length ≤ 1048576 := hpre
  conv => whnf
  repeat' (first
    | ((first | refine append_same ?_ | refine And.intro (And.intro (by kernel_rfl) (And.intro rfl (Nat.le_of_ble_eq_true rfl))) ?_); conv => whnf))
  refine append_sl (zs := []) (ws := zs) rfl rfl rfl rfl (by omega) (Nat.zero_le _) (fun e => ?_) (fun _ => ?_)
  · subst e
    conv => whnf
    repeat' (first
      | (refine append_same ?_; conv => whnf))
    exact retL rfl rfl rfl rfl
  · conv => whnf
    repeat' (first
      | (refine append_same ?_; conv => whnf))
    exact retL rfl rfl rfl (by simp)
theorem copyNums_call {c : Nat} {zs : List Int} {env : List AV} {rows : List Row} {ctr low : Nat} {k : AV → St → Prop} (hpre : zs.length ≤ 1048576) (h : k (.ref rows.length ctr 0 zs.length) ⟨env, rows ++ [⟨ctr, 3, 1, zs.map (.int .i64)⟩], ctr + 1, low⟩) :
    CallB Tryz.prog 103 ⟨env, rows, ctr, low⟩ [.sl c zs.length (zs.map (.int .i64))] k := callL_in copyNums_sound (c, zs) hpre h
set_option maxRecDepth 10000 in
theorem l2Nums_sound : Sound Tryz.prog 56 (fnL (ι := Nat × List Int) 3 (fun | (c, zs) => [.sl c zs.length (zs.map (.int .i64))]) (fun | (_, zs) => zs.length ≤ 1048576) (fun | (_, zs) => zs)) := by
  refine sound_of Tryz.func56 rfl (enters_of Tryz.func56 (by kernel_rfl) (by kernel_rfl)) ?_
  rintro ⟨c, zs⟩ hpre
  have hpre : zs.length ≤ 1048576 := hpre
  conv => whnf
  repeat' (first
    | ((first | refine append_same ?_ | refine And.intro (And.intro (by kernel_rfl) (And.intro rfl (Nat.le_of_ble_eq_true rfl))) ?_); conv => whnf))
  refine append_sl (zs := []) (ws := zs) rfl rfl rfl rfl (by omega) (Nat.zero_le _) (fun e => ?_) (fun _ => ?_)
  · subst e
    conv => whnf
    repeat' (first
      | (refine append_same ?_; conv => whnf))
    exact retL rfl rfl rfl rfl
  · conv => whnf
    repeat' (first
      | (refine append_same ?_; conv => whnf))
    exact retL rfl rfl rfl (by simp)
theorem l2Nums_call {c : Nat} {zs : List Int} {env : List AV} {rows : List Row} {ctr low : Nat} {k : AV → St → Prop} (hpre : zs.length ≤ 1048576) (h : k (.ref rows.length ctr 0 zs.length) ⟨env, rows ++ [⟨ctr, 3, 1, zs.map (.int .i64)⟩], ctr + 1, low⟩) :
    CallB Tryz.prog 56 ⟨env, rows, ctr, low⟩ [.sl c zs.length (zs.map (.int .i64))] k := callL_in l2Nums_sound (c, zs) hpre h
set_option maxRecDepth 10000 in
theorem axisOk_sound : Sound Tryz.prog 184 (fnS (ι := Nat × List Int × Nat × List Int × Int) (fun | (c, xs, d, zs, i) => [.agg [.sl c xs.length (xs.map (.int .i64)), .sl d zs.length (zs.map (.int .i64))], .int .i64 i]) (fun _ => True) (fun | (_, xs, _, _, i) => .bool (decide (0 ≤ i ∧ i < xs.length)))) := by
  refine sound_of Tryz.func184 rfl (enters_of Tryz.func184 (by kernel_rfl) (by kernel_rfl)) ?_
  rintro ⟨c, xs, d, zs, i⟩ -
  conv => whnf
  repeat' (first
    | ((first | refine aIf_t ?_ | refine aIf_f ?_ | refine fun (_ : _ ≤ maxLen) => ?_ | refine aGet_in rfl ?_ | refine And.intro rfl (And.intro (List.cons_ne_nil _ _) ?_) | refine append_same ?_); conv => whnf) | refine aIf_eqt ?_
    | (refine aIf_dec (fun _ => ?_) (fun _ => ?_) <;> conv => whnf))
  all_goals (refine retS rfl (congrArg AV.bool ?_); simp; try omega)
theorem axisOk_call {c d : Nat} {xs zs : List Int} {i : Int} {env : List AV} {rows : List Row} {ctr low : Nat} {k : AV → St → Prop} (h : k (.bool (decide (0 ≤ i ∧ i < xs.length))) ⟨env, rows, ctr + 1, low⟩) :
    CallB Tryz.prog 184 ⟨env, rows, ctr, low⟩ [.agg [.sl c xs.length (xs.map (.int .i64)), .sl d zs.length (zs.map (.int .i64))], .int .i64 i] k := callS_in axisOk_sound (c, xs, d, zs, i) trivial rfl h
theorem tensor_len {xs zs : List Int} (h : tensorOk xs zs = true) : xs.length ≤ 3 ∧ 1 ≤ zs.length ∧ zs.length ≤ 64 := by
  obtain ⟨h1, h2, h3⟩ := (tensorOk_iff _ _).1 h
  have h4 := cnt64 h1 (Nat.le_refl _)
  exact ⟨((shapeOk_iff _).1 h1).1, by omega, by omega⟩
theorem tensor_or (xs zs : List Int) : (tensorOk xs zs = true ∧ xs.length ≤ 3 ∧ 1 ≤ zs.length ∧ zs.length ≤ 64) ∨ tensorOk xs zs = false := by
  cases h : tensorOk xs zs
  · exact .inr rfl
  · exact .inl ⟨rfl, tensor_len h⟩
abbrev nl (v : Nat) : Row := ⟨v, 3, 1, []⟩
abbrev li (v : Nat) (zs : List Int) : Row := ⟨v, 3, 1, zs.map (.int .i64)⟩
abbrev bt (v : Nat) (cells : List AV) : Row := ⟨v, 40, 2, cells⟩
abbrev TM := List Int × List Int × Bool
def noT : TM := ([], [], false)
def negM (xs zs : List Int) : TM := if tensorOk xs zs = true then (xs, zs.map (fun z => -z), true) else noT
theorem neg_t {xs zs : List Int} (h : tensorOk xs zs = true) : negM xs zs = (xs, zs.map (fun z => -z), true) := if_pos h
theorem neg_f {xs zs : List Int} (h : tensorOk xs zs = false) : negM xs zs = noT := if_neg (by rw [h]; exact Bool.false_ne_true)
theorem getD_map {zs : List Int} {f : Int → Int} {j : Nat} (h : j < zs.length) : (zs.map f).getD j 0 = f (zs.getD j 0) := by
  simp [List.getD, List.getElem?_map, List.getElem?_eq_getElem h]
theorem getD_snoc {ws : List Int} {k j : Nat} {z : Int} (hl : ws.length = k) (hj : j < k + 1) : (ws ++ [z]).getD j 0 = if j = k then z else ws.getD j 0 := by
  subst hl
  by_cases e : j = ws.length
  · subst e; simp [List.getD]
  · have : j < ws.length := by omega
    rw [if_neg e]
    simp [List.getD, List.getElem?_append_left this]
def sNegOf : CSpec := fnTB (ι := Nat × List Int × Nat × List Int) 3 (fun | (c, xs, d, zs) => [.agg [.sl c xs.length (xs.map (.int .i64)), .sl d zs.length (zs.map (.int .i64))]]) (fun _ => True) (fun | (_, xs, _, zs) => negM xs zs)
def ngP (zs : List Int) : Prop := zs.length ≤ 1048576 ∧ ∀ j, j < zs.length → -1000000000000 ≤ zs.getD j 0 ∧ zs.getD j 0 ≤ 1000000000000
def sNegN : CSpec := fnL (ι := Nat × List Int) 3 (fun | (c, zs) => [.sl c zs.length (zs.map (.int .i64))]) (fun | (_, zs) => ngP zs) (fun | (_, zs) => zs.map (fun z => -z))
set_option maxRecDepth 10000 in
theorem negNums_sound : Sound Tryz.prog 158 sNegN := by
  refine sound_of Tryz.func158 rfl (enters_of Tryz.func158 (by kernel_rfl) (by kernel_rfl)) ?_
  rintro ⟨c, zs⟩ hpre
  obtain ⟨hz, hnum⟩ : ngP zs := hpre
  have hmax : maxLen = 9223372036854775807 := rfl
  conv => whnf
  repeat' (first
    | ((first | refine fun (_ : _ ≤ maxLen) => ?_ | refine And.intro (And.intro (Int.le_refl _) (And.intro (by kernel_rfl) (And.intro rfl (by kernel_rfl)))) (And.intro (And.intro (by omega) (And.intro (bytes_le (b := 8) rfl (by omega)) (by omega))) ?_) | refine append_same ?_); conv => whnf))
  refine loop_u (ι := Nat × List Int) [false, false, false, true, false, false, false, false, false, true, true, true, false, false, false, false, false, false, false, false, false, false, false] (fun | (k, _) => [(11, .int .i64 k)]) (fun | (_, ws) => [(1, ws.map (.int .i64))]) (fun x => x.1 ≤ zs.length ∧ x.2.length = zs.length ∧ ∀ j, j < x.1 → x.2.getD j 0 = -(zs.getD j 0)) (fun x => zs.length - x.1) ((0, List.replicate zs.length 0)) ⟨Nat.zero_le _, by simp, fun j hj => absurd hj (Nat.not_lt_zero _)⟩ ?_ ?_
  · conv => whnf
    repeat' (first
      | exact trivial | exact rfl
      | exact pureL_ints _ _ | exact Or.inl (And.intro rfl rfl)
      | exact le_ints (rep_ints _ _) | refine And.intro ?_ ?_
      | exact Nat.le_of_ble_eq_true rfl)
  · rintro ⟨k, ws⟩ ⟨hk, hl, hall⟩
    have hk : k ≤ zs.length := hk
    have hl : ws.length = zs.length := hl
    have hall : ∀ j, j < k → ws.getD j 0 = -(zs.getD j 0) := hall
    conv => whnf
    repeat' (first
      | ((first | refine get_nat (by omega) ?_ | refine And.intro (by omega) ?_ | refine append_same ?_ | refine And.intro rfl (And.intro rfl (And.intro (by first | omega | (rw [List.length_map]; omega)) ?_)) | refine set_nat ?_ (by omega)); conv => whnf) | (refine aIf_dec (fun _ => ?_) (fun _ => ?_) <;> conv => whnf))
    · have hn := hnum k (by omega)
      have hw : IntKind.i64.wrap (0 - zs.getD k 0) = -(zs.getD k 0) := (IntWalk.i64_in _ (by omega)).trans (by omega)
      refine next_u (k + 1, ws.set k (IntKind.i64.wrap (0 - zs.getD k 0))) (show zs.length - (k + 1) < zs.length - k by omega) ⟨(show k + 1 ≤ zs.length by omega), by simpa using hl, fun j hj => ?_⟩ ?_
      · have hj : j < k + 1 := hj
        show (ws.set k (IntKind.i64.wrap (0 - zs.getD k 0))).getD j 0 = _
        rw [getD_set (by omega)]
        split
        · rename_i e; rw [e] at hw; rw [e]; exact hw
        · exact hall j (by omega)
      · conv => whnf
        repeat' (first
          | exact trivial | exact rfl
          | exact pureL_ints _ _ | exact Or.inl (And.intro rfl rfl)
          | exact le_ints rfl | refine And.intro ?_ ?_
          | exact Nat.le_of_ble_eq_true rfl | exact int_eq (by rw [IntWalk.i64_in _ (by omega)] <;> omega))
    · have e : ws = zs.map (fun z => -z) := getD_ext (by simpa using hl) fun j hj => by
        rw [List.length_map] at hj
        rw [hall j (by omega), getD_map hj]
      subst e
      exact retL rfl rfl rfl (by simp)
theorem negNums_call {c : Nat} {zs : List Int} {env : List AV} {rows : List Row} {ctr low : Nat} {k : AV → St → Prop} (hpre : ngP zs) (h : k (.ref rows.length ctr 0 (zs.map (fun z => -z)).length) ⟨env, rows ++ [⟨ctr, 3, 1, (zs.map (fun z => -z)).map (.int .i64)⟩], ctr + 1, low⟩) :
    CallB Tryz.prog 158 ⟨env, rows, ctr, low⟩ [.sl c zs.length (zs.map (.int .i64))] k := callL_in negNums_sound (c, zs) hpre h
set_option maxRecDepth 10000 in
theorem iNegOf_sound : Sound Tryz.prog 164 sNegOf := by
  refine sound_of Tryz.func164 rfl (enters_of Tryz.func164 (by kernel_rfl) (by kernel_rfl)) ?_
  rintro ⟨c, xs, d, zs⟩ -
  rcases tensor_or xs zs with ⟨ht, hx, hz⟩ | ht
  · have hnum := ((tensorOk_iff _ _).1 ht).2.2
    have hng : ngP zs := ⟨by omega, fun j hj => by have := hnum j hj; omega⟩
    conv => whnf
    repeat' (first
      | ((first | refine plan_in (id := 3) [0, 1, 3, 4, 2, 5, 6, 7, 8] (by kernel_rfl) (by kernel_rfl) ?_ | refine aGet_in rfl ?_ | refine load_same ?_ | refine And.intro rfl (And.intro (List.cons_ne_nil _ _) ?_) | refine And.intro (Nat.le_of_ble_eq_true rfl) ?_ | refine callG_t ?_ | refine copyNums_call (by omega) ?_ | refine iTensorOk_call ?_ | refine append_same ?_); conv => whnf) | (refine negNums_call (by first | omega | assumption | (refine ⟨?_, ?_⟩ <;> first | assumption | omega) | (refine ⟨?_, ?_, ?_⟩ <;> first | assumption | omega)) ?_; conv => whnf) | ((first | refine takeN_in ?_ | refine And.intro (pureL_ints _ _) ?_ | refine set_force ?_ | refine And.intro (by kernel_rfl) ?_ | refine aIf_tt (by assumption) ?_); conv => whnf) | refine aIf_not ?_)
    refine retTB (hM := neg_t ht) ?_ ?_ ?_ ?_ ?_
    all_goals (first | exact rfl | decide | (simp; done))
  · conv => whnf
    repeat' (first
      | ((first | refine plan_in (id := 3) [0, 1, 3, 4, 2, 5, 6, 7, 8] (by kernel_rfl) (by kernel_rfl) ?_ | refine load_same ?_ | refine And.intro rfl (And.intro (List.cons_ne_nil _ _) ?_) | refine And.intro (Nat.le_of_ble_eq_true rfl) ?_ | refine callG_t ?_ | refine iTensorOk_call ?_ | refine append_same ?_ | refine takeN_in ?_ | refine And.intro (pureL_ints _ _) ?_ | refine set_force ?_ | refine And.intro (by kernel_rfl) ?_ | refine aIf_ff (by assumption) ?_); conv => whnf) | refine aIf_not ?_)
    refine retTB (hM := neg_f ht) ?_ ?_ ?_ ?_ ?_
    all_goals (first | exact rfl | decide | (simp; done))
set_option maxRecDepth 10000 in
theorem sNegOf_sound : Sound Tryz.prog 118 sNegOf := by
  refine sound_of Tryz.func118 rfl (enters_of Tryz.func118 (by kernel_rfl) (by kernel_rfl)) ?_
  rintro ⟨c, xs, d, zs⟩ -
  rcases tensor_or xs zs with ⟨ht, hx, hz⟩ | ht
  · have hnum := ((tensorOk_iff _ _).1 ht).2.2
    have hmax : maxLen = 9223372036854775807 := rfl
    conv => whnf
    repeat' (first
      | ((first | refine plan_in (id := 7) [0, 1, 2, 3, 4, 5, 6, 7, 8, 9, 10, 11] (by kernel_rfl) (by kernel_rfl) ?_ | refine aGet_in rfl ?_ | refine load_same ?_ | refine And.intro rfl (And.intro (List.cons_ne_nil _ _) ?_) | refine And.intro (Nat.le_of_ble_eq_true rfl) ?_ | refine callG_t ?_ | refine l2Nums_call (by omega) ?_ | refine sTensorOk_call ?_ | refine append_same ?_ | refine takeN_in ?_ | refine And.intro (pureL_ints _ _) ?_ | refine set_force ?_ | refine And.intro (by kernel_rfl) ?_ | refine aIf_tt (by assumption) ?_); conv => whnf) | refine aIf_not ?_)
    refine loop_in (ι := Nat × List Int) (fun | (k, ws) => ⟨[.un, .ptr 0 1 0, .ptr 3 4 0, .bool false, .ptr 8 10 0, .int .i64 k, .un, .un, .un, .un, .un, .un, .un, .un, .un, .un, .un, .un, .un, .un, .un, .un, .un, .un, .un, .un, .un, .un, .un, .un, .un, .un, .un], [bt 1 [.sl c xs.length (xs.map (.int .i64)), .sl d zs.length (zs.map (.int .i64))], nl 2, nl 3, bt 4 [.ref 1 2 0 0, .ref 2 3 0 0], li 6 xs, li 7 ws, nl 8, nl 9, bt 10 [.ref 4 6 0 xs.length, .ref 5 7 0 ws.length]], 11, 0⟩)
      (fun x => x.1 ≤ zs.length ∧ x.2.length = x.1 ∧ ∀ j, j < x.1 → x.2.getD j 0 = -(zs.getD j 0)) (fun x => zs.length - x.1) (0, []) ⟨Nat.zero_le _, rfl, fun j hj => absurd hj (Nat.not_lt_zero _)⟩ ?_ ?_
    · repeat' (first
        | exact trivial | exact rfl
        | exact Or.inl (And.intro rfl rfl) | exact le_ints rfl
        | exact Or.inl (And.intro (pureL_pair _ _ _ _ _ _) rfl) | refine Or.inr ?_
        | refine And.intro ?_ ?_ | exact Nat.le_of_ble_eq_true rfl)
    · rintro ⟨k, ws⟩ ⟨hk, hl, hall⟩
      have hk : k ≤ zs.length := hk
      have hl : ws.length = k := hl
      have hall : ∀ j, j < k → ws.getD j 0 = -(zs.getD j 0) := hall
      conv => whnf
      repeat' (first
        | ((first | refine plan_in (id := 7) [0, 1, 2, 3, 4, 5, 6, 7, 8, 9, 10, 11] (by kernel_rfl) (by kernel_rfl) ?_ | refine fun (_ : _ ≤ maxLen) => ?_ | refine get_nat (by omega) ?_ | refine aGet_in rfl ?_ | refine And.intro (by omega) ?_ | refine load_same ?_ | refine And.intro (Nat.le_of_ble_eq_true rfl) ?_ | refine append_same ?_ | refine takeN_in ?_ | refine append_int rfl rfl (by first | rfl | (simp only [List.length_take, turned_length]; omega)) (by omega) (Nat.le_of_ble_eq_true rfl) ?_ | refine set_force ?_ | refine And.intro (And.intro (by kernel_rfl) (And.intro rfl (Nat.le_of_ble_eq_true rfl))) ?_ | refine And.intro (by kernel_rfl) ?_); conv => whnf) | (refine aIf_dec (fun _ => ?_) (fun _ => ?_) <;> conv => whnf))
      · have hn := hnum k (by omega)
        have hw : IntKind.i64.wrap (0 - zs.getD k 0) = -(zs.getD k 0) := (IntWalk.i64_in _ (by omega)).trans (by omega)
        refine next_in (k + 1, ws ++ [IntKind.i64.wrap (0 - zs.getD k 0)]) (show zs.length - (k + 1) < zs.length - k by omega) ⟨(show k + 1 ≤ zs.length by omega), by simp [hl], fun j hj => ?_⟩ ?_
        · have hj : j < k + 1 := hj
          show (ws ++ [IntKind.i64.wrap (0 - zs.getD k 0)]).getD j 0 = _
          rw [getD_snoc hl hj]
          split
          · rename_i e; rw [e]; exact hw
          · exact hall j (by omega)
        · repeat' (first
            | exact trivial | exact rfl
            | exact Or.inl (And.intro rfl rfl) | exact le_ints rfl
            | exact Or.inl (And.intro (pureL_pair _ _ _ _ _ _) rfl) | refine Or.inr ?_
            | refine And.intro ?_ ?_ | exact Nat.le_of_ble_eq_true rfl
            | exact List.length_append | exact int_eq (by rw [IntWalk.i64_in _ (by omega)] <;> omega))
      · have e : ws = zs.map (fun z => -z) := getD_ext (by rw [List.length_map]; omega) fun j hj => by
          rw [List.length_map] at hj
          rw [hall j (by omega), getD_map hj]
        subst e
        refine retTB (hM := neg_t ht) ?_ ?_ ?_ ?_ ?_
        all_goals (first | exact rfl | decide | (simp; done))
  · conv => whnf
    repeat' (first
      | ((first | refine plan_in (id := 7) [0, 1, 2, 3, 4, 5, 6, 7, 8, 9, 10, 11] (by kernel_rfl) (by kernel_rfl) ?_ | refine load_same ?_ | refine And.intro rfl (And.intro (List.cons_ne_nil _ _) ?_) | refine And.intro (Nat.le_of_ble_eq_true rfl) ?_ | refine callG_t ?_ | refine sTensorOk_call ?_ | refine append_same ?_ | refine takeN_in ?_ | refine And.intro (pureL_ints _ _) ?_ | refine set_force ?_ | refine And.intro (by kernel_rfl) ?_ | refine aIf_ff (by assumption) ?_); conv => whnf) | refine aIf_not ?_)
    refine retTB (hM := neg_f ht) ?_ ?_ ?_ ?_ ?_
    all_goals (first | exact rfl | decide | (simp; done))
theorem sNegOf_call {c d : Nat} {xs zs : List Int} {env : List AV} {rows : List Row} {ctr low : Nat} {k : AV → St → Prop} (hk : k (.tup [.agg [.ref rows.length ctr 0 (negM xs zs).1.length, .ref (rows.length + 1) ctr 0 (negM xs zs).2.1.length], .bool (negM xs zs).2.2]) ⟨env, rows ++ [⟨ctr, 3, 1, (negM xs zs).1.map (.int .i64)⟩, ⟨ctr, 3, 1, (negM xs zs).2.1.map (.int .i64)⟩], ctr + 1, low⟩) :
    CallB Tryz.prog 118 ⟨env, rows, ctr, low⟩ [.agg [.sl c xs.length (xs.map (.int .i64)), .sl d zs.length (zs.map (.int .i64))]] k := callTB_in sNegOf_sound (c, xs, d, zs) trivial hk
theorem iNegOf_call {c d : Nat} {xs zs : List Int} {env : List AV} {rows : List Row} {ctr low : Nat} {k : AV → St → Prop} (hk : k (.tup [.agg [.ref rows.length ctr 0 (negM xs zs).1.length, .ref (rows.length + 1) ctr 0 (negM xs zs).2.1.length], .bool (negM xs zs).2.2]) ⟨env, rows ++ [⟨ctr, 3, 1, (negM xs zs).1.map (.int .i64)⟩, ⟨ctr, 3, 1, (negM xs zs).2.1.map (.int .i64)⟩], ctr + 1, low⟩) :
    CallB Tryz.prog 164 ⟨env, rows, ctr, low⟩ [.agg [.sl c xs.length (xs.map (.int .i64)), .sl d zs.length (zs.map (.int .i64))]] k := callTB_in iNegOf_sound (c, xs, d, zs) trivial hk
end Go.Proofs.YtjmdhfjemaoebaaGreat
