import Derived.Test.YtilimbdpdpfalaaM01x14
import Derived.Test.YtilimbdpdpfalaaM01x16
import Derived.Test.YtilimbdpdpfalaaM01x15
import Derived.Test.YtilimbdpdpfalaaM01x18
import Derived.Test.YtilimbdpdpfalaaM01x11
/- Chapter 4: letters: different ones, and which are taken. -/
namespace Go.Proofs.Ytilimbdpdpfalaa
set_option maxRecDepth 20000
open Go.RowKit Go.Am
set_option linter.unusedSimpArgs false
attribute [local irreducible] aPlan aGet aIf aLoop aCall RetB NextB CallB CallG aCut aSet aAppend

/-- The first k numbers are different indexes of so many. -/
def difTo (zs : List Int) (n : Int) (k : Nat) : Prop := ∀ i, i < k → (0 ≤ zs.getD i 0 ∧ zs.getD i 0 < n) ∧ ¬ zs.getD i 0 ∈ zs.take i
instance (zs : List Int) (n : Int) (k : Nat) : Decidable (difTo zs n k) := by unfold difTo; infer_instance
def difP (zs : List Int) (n : Int) : Prop := difTo zs n zs.length
instance (zs : List Int) (n : Int) : Decidable (difP zs n) := by unfold difP; infer_instance
theorem difTo_succ {zs : List Int} {n : Int} {k : Nat} : difTo zs n (k + 1) ↔ difTo zs n k ∧ (0 ≤ zs.getD k 0 ∧ zs.getD k 0 < n) ∧ ¬ zs.getD k 0 ∈ zs.take k := by
  constructor
  · exact fun h => ⟨fun i hi => h i (by omega), h k (by omega)⟩
  · rintro ⟨h1, h2⟩ i hi
    rcases Nat.lt_succ_iff_lt_or_eq.1 hi with h | rfl
    · exact h1 i h
    · exact h2
theorem mem_take_succ {zs : List Int} {k : Nat} {z : Int} (hk : k < zs.length) : z ∈ zs.take (k + 1) ↔ z ∈ zs.take k ∨ z = zs.getD k 0 := by
  rw [List.take_add_one, List.mem_append, getD_eq (d := 0) hk]
  simp
theorem turnTo_mem {zs : List Int} {n : Int} : ∀ k, k ≤ zs.length → (∀ bs, turnTo zs n k = some bs → difTo zs n k ∧ bs.length = n.toNat ∧ ∀ z : Int, 0 ≤ z → z < n → (bs.getD z.toNat false = true ↔ z ∈ zs.take k)) ∧ (turnTo zs n k = none → ¬ difTo zs n k)
  | 0, _ => ⟨fun bs h => by cases h; exact ⟨fun i hi => absurd hi (Nat.not_lt_zero _), by simp, fun z h1 h2 => by simp [List.getD, List.getElem?_replicate]; split <;> rfl⟩, fun h => by cases h⟩
  | k + 1, hk => by
    obtain ⟨ih1, ih2⟩ := turnTo_mem (zs := zs) (n := n) k (by omega)
    have hk' : k < zs.length := by omega
    cases e : turnTo zs n k with
    | none =>
      have e' := turnTo_none e 1
      exact ⟨fun bs h => absurd (e'.symm.trans h) (by simp), fun _ h => ih2 e (difTo_succ.1 h).1⟩
    | some bs =>
      obtain ⟨h1, h2, h3⟩ := ih1 bs e
      by_cases hp : 0 ≤ zs.getD k 0 ∧ zs.getD k 0 < n ∧ bs.getD (zs.getD k 0).toNat false = false
      · have e' := turnTo_next e hp
        have hm : ¬ zs.getD k 0 ∈ zs.take k := fun h => by
          have := (h3 _ hp.1 hp.2.1).2 h
          rw [hp.2.2] at this; cases this
        refine ⟨fun bs' h => ?_, fun h => by rw [e'] at h; cases h⟩
        rw [e'] at h; cases h
        refine ⟨difTo_succ.2 ⟨h1, ⟨hp.1, hp.2.1⟩, hm⟩, by simpa using h2, fun z z1 z2 => ?_⟩
        rw [getD_setG (by omega), mem_take_succ hk']
        split
        · rename_i ez
          exact ⟨fun _ => .inr (by omega), fun _ => rfl⟩
        · rename_i ez
          rw [h3 z z1 z2]
          exact ⟨.inl, fun h => h.elim id fun h => absurd (congrArg Int.toNat h.symm) ez⟩
      · have e' := turnTo_f e hp
        refine ⟨fun bs' h => absurd (e'.symm.trans h) (by simp), fun _ h => ?_⟩
        obtain ⟨-, ⟨a1, a2⟩, a3⟩ := difTo_succ.1 h
        apply hp
        refine ⟨a1, a2, ?_⟩
        rw [← Bool.not_eq_true]
        exact fun hb => a3 ((h3 _ a1 a2).1 hb)
theorem difOk_dec (zs : List Int) (n : Int) : difOk zs n = decide (difP zs n) := by
  obtain ⟨h1, h2⟩ := turnTo_mem (zs := zs) (n := n) zs.length (Nat.le_refl _)
  unfold difOk
  cases e : turnTo zs n zs.length with
  | none => exact (decide_eq_false (h2 e)).symm
  | some bs => exact (decide_eq_true (h1 bs e).1).symm
/-- Letters: no more than axes. -/
def letP (zs : List Int) (n : Int) : Prop := zs.length ≤ 3 ∧ difP zs n
instance (zs : List Int) (n : Int) : Decidable (letP zs n) := by unfold letP; infer_instance
theorem difP_in {zs : List Int} {n : Int} (h : difP zs n) : ∀ j, j < zs.length → 0 ≤ zs.getD j 0 ∧ zs.getD j 0 < n := fun j hj => (h j hj).1

/-! The model's. -/
theorem l4Has_sound : Sound Try.prog 134 (fnS (ι := Nat × List Int × Int) (fun | (c, zs, z) => [.sl c zs.length (zs.map (.int .i64)), .int .i64 z]) (fun _ => True) (fun | (_, zs, z) => .bool (decide (z ∈ zs)))) := by
  refine sound_of Try.func134 rfl (enters_of Try.func134 (by kernel_rfl) (by kernel_rfl)) ?_
  rintro ⟨c, zs, z⟩ -
  have hmax : maxLen = 9223372036854775807 := rfl
  conv => whnf
  repeat' (first
    | (refine aIf_t ?_; conv => whnf))
  refine loop_u (ι := Nat) [true, true, false, false, false, true, false, false, false, false, false, false, false, false, false, false, false, false] (fun k => [(5, .int .i64 k)]) (fun _ => []) (fun k => k ≤ zs.length ∧ ¬ z ∈ zs.take k) (fun k => zs.length - k) (0) ⟨Nat.zero_le _, by simp⟩ ?_ ?_
  · conv => whnf
    repeat' (first
      | exact trivial
      | exact rfl
      | exact pureL_ints _ _
      | refine And.intro ?_ ?_
      | exact Nat.le_of_ble_eq_true rfl)
  · rintro k ⟨hk, hno⟩
    have hk : k ≤ zs.length := hk
    have hno : ¬ z ∈ zs.take k := hno
    conv => whnf
    repeat' (first
      | (refine fun (_ : _ ≤ maxLen) => ?_; conv => whnf)
      | (refine get_nat (by omega) ?_; conv => whnf)
      | (refine And.intro (by omega) ?_; conv => whnf)
      | (refine aIf_dec (fun _ => ?_) (fun _ => ?_) <;> conv => whnf))
    all_goals (first | (exfalso; omega) | skip)
    · rename_i hlt he
      refine retS rfl (congrArg AV.bool (decide_eq_true ?_).symm)
      rw [← he]
      simp only [List.getD, List.getElem?_eq_getElem (show k < zs.length by omega), Option.getD_some]
      exact List.getElem_mem _
    · rename_i hlt he
      refine next_u (k + 1) (show zs.length - (k + 1) < zs.length - k by omega) ⟨(by omega : k + 1 ≤ zs.length), fun h => ?_⟩ ?_
      · rcases (mem_take_succ (by omega)).1 h with h | h
        · exact hno h
        · exact he h.symm
      · conv => whnf
        repeat' (first
          | exact trivial
          | exact rfl
          | exact pureL_ints _ _
          | refine And.intro ?_ ?_
          | exact Nat.le_of_ble_eq_true rfl
          | exact int_eq (by rw [IntWalk.i64_in _ (by omega)] <;> omega))
    · have e : k = zs.length := by omega
      rw [e, List.take_length] at hno
      exact retS rfl (congrArg AV.bool (decide_eq_false hno).symm)
theorem l4Has_call {c : Nat} {zs : List Int} {z : Int} {env : List AV} {rows : List Row} {ctr low : Nat} {k : AV → St → Prop} (hpre : True) (h : k (.bool (decide (z ∈ zs))) ⟨env, rows, ctr + 1, low⟩) :
    CallB Try.prog 134 ⟨env, rows, ctr, low⟩ [.sl c zs.length (zs.map (.int .i64)), .int .i64 z] k := callS_in l4Has_sound (c, zs, z) hpre rfl h
theorem l4Has_cut {c n : Nat} {zs : List Int} {z : Int} {cells : List AV} {env : List AV} {rows : List Row} {ctr low : Nat} {k : AV → St → Prop} (hc : cells = zs.map (.int .i64)) (hn : n = zs.length) (h : k (.bool (decide (z ∈ zs))) ⟨env, rows, ctr + 1, low⟩) :
    CallB Try.prog 134 ⟨env, rows, ctr, low⟩ [.sl c n cells, .int .i64 z] k := by
  subst hc; subst hn
  exact l4Has_call trivial h
theorem l4Letters_sound : Sound Try.prog 91 (fnS (ι := Nat × List Int × Nat) (fun | (c, zs, n) => [.sl c zs.length (zs.map (.int .i64)), .int .i64 n]) (fun | (_, _, n) => n ≤ 1048576) (fun | (_, zs, n) => .bool (decide (letP zs n)))) := by
  refine sound_of Try.func91 rfl (enters_of Try.func91 (by kernel_rfl) (by kernel_rfl)) ?_
  rintro ⟨c, zs, n⟩ hpre
  have hpre : n ≤ 1048576 := hpre
  have hmax : maxLen = 9223372036854775807 := rfl
  have hw : IntKind.i64.wrap ((n : Int) - 1) = n - 1 := IntWalk.i64_in _ (by omega)
  conv => whnf
  repeat' (first
    | (refine plan_in (id := 4) [0, 1, 2, 3, 4, 5, 6, 7, 8, 9, 10, 11, 12, 13, 14, 15, 16, 17] (by kernel_rfl) (by kernel_rfl) ?_; conv => whnf))
  refine loop_u (ι := Nat) [true, true, false, false, false, true, false, false, false, false, false, false, false, false, false, false, false, false, false, false, false, false, false, false, false, false, false, false, false, false, false, false, false] (fun k => [(5, .int .i64 k)]) (fun _ => []) (fun k => k ≤ zs.length ∧ difTo zs n k) (fun k => zs.length - k) (0) ⟨Nat.zero_le _, fun i hi => absurd hi (Nat.not_lt_zero _)⟩ ?_ ?_
  · conv => whnf
    repeat' (first
      | exact trivial
      | exact rfl
      | exact pureL_ints _ _
      | refine And.intro ?_ ?_
      | exact Nat.le_of_ble_eq_true rfl)
  · rintro k ⟨hk, hno⟩
    have hk : k ≤ zs.length := hk
    have hno : difTo zs n k := hno
    conv => whnf
    repeat' (first
      | (refine plan_in (id := 4) [0, 1, 2, 3, 4, 5, 6, 7, 8, 9, 10, 11, 12, 13, 14, 15, 16, 17] (by kernel_rfl) (by kernel_rfl) ?_; conv => whnf)
      | (refine aIf_t ?_; conv => whnf)
      | (refine aIf_f ?_; conv => whnf)
      | (refine fun (_ : _ ≤ maxLen) => ?_; conv => whnf)
      | (refine get_nat (by omega) ?_; conv => whnf)
      | (refine And.intro (by omega) ?_; conv => whnf)
      | (refine And.intro (by rw [List.length_map]; omega) ?_; conv => whnf)
      | (refine And.intro (pureL_take _ _ _) ?_; conv => whnf)
      | (refine in_call ?_; conv => whnf)
      | refine aIf_eqf ?_
      | refine aIf_not ?_
      | (refine aIf_dec (fun _ => ?_) (fun _ => ?_) <;> conv => whnf))
    all_goals (first | (exfalso; omega) | skip)
    · rename_i hlt hin
      refine l4Has_cut (zs := zs.take k) (by rw [Int.toNat_natCast, Nat.mul_one, List.map_take]) (by simp; omega) ?_
      conv => whnf
      repeat' (first
        | (refine plan_in (id := 4) [0, 1, 2, 3, 4, 5, 6, 7, 8, 9, 10, 11, 12, 13, 14, 15, 16, 17] (by kernel_rfl) (by kernel_rfl) ?_; conv => whnf)
        | (refine aIf_f ?_; conv => whnf)
        | (refine aIf_dec (fun _ => ?_) (fun _ => ?_) <;> conv => whnf))
      all_goals (first | (exfalso; omega) | skip)
      · rename_i hm
        refine retS rfl (congrArg AV.bool (decide_eq_false fun h => ?_).symm)
        exact (h.2 k (by omega)).2 hm
      · rename_i hm
        refine next_u (k + 1) (show zs.length - (k + 1) < zs.length - k by omega) ⟨(by omega : k + 1 ≤ zs.length), difTo_succ.2 ⟨hno, ⟨by omega, by omega⟩, hm⟩⟩ ?_
        conv => whnf
        repeat' (first
          | exact trivial
          | exact rfl
          | exact pureL_ints _ _
          | refine And.intro ?_ ?_
          | exact Nat.le_of_ble_eq_true rfl
          | exact int_eq (by rw [IntWalk.i64_in _ (by omega)] <;> omega))
    · rename_i hlt hin
      refine retS rfl (congrArg AV.bool (decide_eq_false fun h => ?_).symm)
      have := (h.2 k (by omega)).1
      omega
    · have e : k = zs.length := by omega
      rw [e] at hno
      refine retS rfl (bool_eq ?_)
      simp only [decide_eq_true_eq]
      exact ⟨fun h => ⟨by omega, hno⟩, fun h => by have := h.1; omega⟩
theorem l4Letters_call {c n : Nat} {zs : List Int} {env : List AV} {rows : List Row} {ctr low : Nat} {k : AV → St → Prop} (hpre : n ≤ 1048576) (h : k (.bool (decide (letP zs n))) ⟨env, rows, ctr + 1, low⟩) :
    CallB Try.prog 91 ⟨env, rows, ctr, low⟩ [.sl c zs.length (zs.map (.int .i64)), .int .i64 n] k := callS_in l4Letters_sound (c, zs, n) hpre rfl h
end Go.Proofs.Ytilimbdpdpfalaa

/- Chapter 4: SumOk. -/
namespace Go.Proofs.Ytilimbdpdpfalaa
set_option maxRecDepth 20000
open Go.RowKit Go.Am
set_option linter.unusedSimpArgs false
attribute [local irreducible] aPlan aGet aIf aLoop aCall RetB NextB CallB CallG aCut aSet aAppend

def usedP (fs : List (List Int)) (l : Int) : Prop := ∃ f ∈ fs, l ∈ f
instance (fs : List (List Int)) (l : Int) : Decidable (usedP fs l) := by unfold usedP; infer_instance
theorem mem_succ {α : Type} {d : α} {xs : List α} {k : Nat} (hk : k < xs.length) {x : α} : x ∈ xs.take (k + 1) ↔ x ∈ xs.take k ∨ x = xs.getD k d := by
  rw [List.take_add_one, List.mem_append, getD_eq (d := d) hk]
  simp
theorem usedP_succ {fs : List (List Int)} {l : Int} {k : Nat} (hk : k < fs.length) : usedP (fs.take (k + 1)) l ↔ usedP (fs.take k) l ∨ l ∈ fs.getD k [] := by
  unfold usedP
  constructor
  · rintro ⟨f, hf, hl⟩
    rcases (mem_succ (d := []) hk).1 hf with h | rfl
    · exact .inl ⟨f, h, hl⟩
    · exact .inr hl
  · rintro (⟨f, hf, hl⟩ | hl)
    · exact ⟨f, (mem_succ (d := []) hk).2 (.inl hf), hl⟩
    · exact ⟨_, (mem_succ (d := []) hk).2 (.inr rfl), hl⟩
def lettersP (fs : List (List Int)) (n : Int) : Prop := ∀ f ∈ fs, letP f n
instance (fs : List (List Int)) (n : Int) : Decidable (lettersP fs n) := by unfold lettersP; infer_instance
theorem lettersP_succ {fs : List (List Int)} {n : Int} {k : Nat} (hk : k < fs.length) : lettersP (fs.take (k + 1)) n ↔ lettersP (fs.take k) n ∧ letP (fs.getD k []) n := by
  unfold lettersP
  constructor
  · exact fun h => ⟨fun f hf => h f ((mem_succ (d := []) hk).2 (.inl hf)), h _ ((mem_succ (d := []) hk).2 (.inr rfl))⟩
  · rintro ⟨h1, h2⟩ f hf
    rcases (mem_succ (d := []) hk).1 hf with h | rfl
    · exact h1 f h
    · exact h2
theorem lettersP_k {fs : List (List Int)} {n : Int} {k : Nat} (h : lettersP fs n) (hk : k < fs.length) : letP (fs.getD k []) n := h _ (by
  simp only [List.getD, List.getElem?_eq_getElem hk, Option.getD_some]
  exact List.getElem_mem _)
theorem lettersP_take {fs : List (List Int)} {n : Int} {k : Nat} (hk : k < fs.length) (h : ¬ letP (fs.getD k []) n) : ¬ lettersP fs n := fun h' => h (lettersP_k h' hk)
def takenP (fs : List (List Int)) (n : Nat) : Prop := ∀ l, l < n → usedP fs l
instance (fs : List (List Int)) (n : Nat) : Decidable (takenP fs n) := by unfold takenP; infer_instance
def sumP (zs : List Int) (fs : List (List Int)) (o : List Int) : Prop := zs.length ≤ 5 ∧ btw zs 1 3 = true ∧ (1 ≤ fs.length ∧ fs.length ≤ 4) ∧ letP o zs.length ∧ lettersP fs zs.length ∧ takenP fs zs.length
instance (zs : List Int) (fs : List (List Int)) (o : List Int) : Decidable (sumP zs fs o) := by unfold sumP; infer_instance
abbrev IS := Nat × List Int × Nat × List (List Int) × Nat × List Int

theorem lettersOk_sound : Sound Try.prog 94 (fnS (ι := IS × Nat × List Int) (fun | ((c, zs, d, fs, e, o), g, ls) => [.agg [.sl c zs.length (zs.map (.int .i64)), .sl d fs.length (fs.map (slI d)), .sl e o.length (o.map (.int .i64))], .sl g ls.length (ls.map (.int .i64))]) (fun | ((_, zs, _), _) => zs.length ≤ 1048576) (fun | ((_, zs, _), _, ls) => .bool (decide (letP ls zs.length)))) := by
  refine sound_of Try.func94 rfl (enters_of Try.func94 (by kernel_rfl) (by kernel_rfl)) ?_
  rintro ⟨⟨c, zs, d, fs, e, o⟩, g, ls⟩ hpre
  have hpre : zs.length ≤ 1048576 := hpre
  have hd := difOk_dec ls zs.length
  conv => whnf
  repeat' (first
    | (refine aIf_t ?_; conv => whnf)
    | (refine aIf_f ?_; conv => whnf)
    | (refine fun (_ : _ ≤ maxLen) => ?_; conv => whnf)
    | (refine aGet_in rfl ?_; conv => whnf)
    | (refine And.intro rfl (And.intro (List.cons_ne_nil _ _) ?_); conv => whnf)
    | (refine callG_t ?_; conv => whnf)
    | (refine differentOk_call (by first | omega | assumption | (refine ⟨?_, ?_⟩ <;> first | assumption | omega) | (refine ⟨?_, ?_, ?_⟩ <;> first | assumption | omega)) ?_; conv => whnf)
    | (refine And.intro (pureL_ints _ _) ?_; conv => whnf)
    | refine aIf_eqt ?_
    | (refine aIf_dec (fun _ => ?_) (fun _ => ?_) <;> conv => whnf))
  · exact retS rfl (congrArg AV.bool (by rw [hd]; exact decide_eq_decide.2 ⟨fun h => ⟨by omega, h⟩, fun h => h.2⟩))
  · exact retS rfl (congrArg AV.bool (decide_eq_false (fun h => by have := h.1; omega)).symm)
theorem lettersOk_call {c d e g : Nat} {zs o ls : List Int} {fs : List (List Int)} {env : List AV} {rows : List Row} {ctr low : Nat} {k : AV → St → Prop} (hpre : zs.length ≤ 1048576) (h : k (.bool (decide (letP ls zs.length))) ⟨env, rows, ctr + 1, low⟩) :
    CallB Try.prog 94 ⟨env, rows, ctr, low⟩ [.agg [.sl c zs.length (zs.map (.int .i64)), .sl d fs.length (fs.map (slI d)), .sl e o.length (o.map (.int .i64))], .sl g ls.length (ls.map (.int .i64))] k := callS_in lettersOk_sound ((c, zs, d, fs, e, o), g, ls) hpre rfl h
/-- The letters that are taken by the first k factors, and by the first j letters of the next. -/
def tkInv (fs : List (List Int)) (n : Nat) (k j : Nat) (bs : List Bool) : Prop := bs.length = n ∧ ∀ l : Nat, l < n → (bs.getD l false = true ↔ usedP (fs.take k) l ∨ (l : Int) ∈ (fs.getD k []).take j)
theorem tkInv_0 (fs : List (List Int)) (n : Nat) : tkInv fs n 0 0 (List.replicate n false) := ⟨by simp, fun l hl => by
  have e : (List.replicate n false).getD l false = false := by simp [List.getD, List.getElem?_replicate]; split <;> rfl
  rw [e]
  constructor
  · intro h; cases h
  · rintro (⟨f, hf, -⟩ | h)
    · simp at hf
    · simp at h⟩
theorem tkInv_j {fs : List (List Int)} {n k j : Nat} {bs : List Bool} (h : tkInv fs n k j bs) (hj : j < (fs.getD k []).length) (hr : 0 ≤ (fs.getD k []).getD j 0 ∧ (fs.getD k []).getD j 0 < n) : tkInv fs n k (j + 1) (bs.set ((fs.getD k []).getD j 0).toNat true) := by
  obtain ⟨h1, h2⟩ := h
  refine ⟨by simpa using h1, fun l hl => ?_⟩
  rw [getD_setG (by omega), mem_take_succ hj]
  split
  · rename_i e
    exact ⟨fun _ => .inr (.inr (by omega)), fun _ => rfl⟩
  · rename_i e
    rw [h2 l hl]
    constructor
    · rintro (h | h)
      · exact .inl h
      · exact .inr (.inl h)
    · rintro (h | h | h)
      · exact .inl h
      · exact .inr h
      · exact absurd (by rw [← h]; rfl) e
theorem tkInv_k {fs : List (List Int)} {n k j : Nat} {bs : List Bool} (h : tkInv fs n k j bs) (hk : k < fs.length) (hj : j = (fs.getD k []).length) : tkInv fs n (k + 1) 0 bs := by
  obtain ⟨h1, h2⟩ := h
  refine ⟨h1, fun l hl => ?_⟩
  rw [h2 l hl, usedP_succ hk, hj, List.take_length]
  constructor
  · exact .inl
  · rintro (h | h)
    · exact h
    · simp at h
theorem tkInv_end {fs : List (List Int)} {n k : Nat} {bs : List Bool} (h : tkInv fs n k 0 bs) (hk : k = fs.length) {l : Nat} (hl : l < n) : (bs.getD l false = true ↔ usedP fs l) := by
  rw [h.2 l hl, hk, List.take_length]
  constructor
  · rintro (h | h)
    · exact h
    · simp at h
  · exact .inl
set_option maxHeartbeats 4000000 in
theorem allLettersTaken_sound : Sound Try.prog 95 (fnS (ι := IS) (fun | (c, zs, d, fs, e, o) => [.agg [.sl c zs.length (zs.map (.int .i64)), .sl d fs.length (fs.map (slI d)), .sl e o.length (o.map (.int .i64))]]) (fun | (_, zs, _, fs, _, _) => zs.length ≤ 1048576 ∧ lettersP fs zs.length) (fun | (_, zs, _, fs, _, _) => .bool (decide (takenP fs zs.length)))) := by
  refine sound_of Try.func95 rfl (enters_of Try.func95 (by kernel_rfl) (by kernel_rfl)) ?_
  rintro ⟨c, zs, d, fs, e, o⟩ hpre
  obtain ⟨hpl, hls⟩ : zs.length ≤ 1048576 ∧ lettersP fs zs.length := hpre
  have hmax : maxLen = 9223372036854775807 := rfl
  conv => whnf
  repeat' (first
    | (refine fun (_ : _ ≤ maxLen) => ?_; conv => whnf)
    | (refine aGet_in rfl ?_; conv => whnf)
    | (refine And.intro rfl (And.intro (List.cons_ne_nil _ _) ?_); conv => whnf)
    | (refine And.intro (And.intro (Int.le_refl _) (And.intro (by kernel_rfl) (And.intro rfl (by kernel_rfl)))) (And.intro (And.intro (by omega) (And.intro (bytes_le (b := 1) rfl (by omega)) (by omega))) ?_); conv => whnf))
  refine loop_u (ι := Nat × List Bool) [false, false, false, true, false, false, false, false, false, false, false, false, false, false, false, true, true, true, false, false, false, false, false, false, false, false, false, false, false, false, false, false, false, false, false, false, false, false, false, false, false] (fun | (k, _) => [(17, .int .i64 k)]) (fun | (_, bs) => [(1, bs.map .bool)]) (fun | (k, bs) => k ≤ fs.length ∧ tkInv fs zs.length k 0 bs) (fun x => fs.length - x.1) ((0, List.replicate zs.length false)) ⟨Nat.zero_le _, tkInv_0 _ _⟩ ?_ ?_
  · conv => whnf
    repeat' (first
      | exact trivial
      | exact rfl
      | exact pureL_ints _ _
      | exact le_bools (rep_bools _)
      | exact pureL_ii _ _
      | refine Or.inr ?_
      | refine And.intro ?_ ?_
      | exact Nat.le_of_ble_eq_true rfl)
  · rintro ⟨k, bs⟩ ⟨hk, ht⟩
    have hk : k ≤ fs.length := hk
    have ht : tkInv fs zs.length k 0 bs := ht
    by_cases hlt : k < fs.length
    · have hlk := difP_in (lettersP_k hls hlt).2
      conv => whnf
      repeat' (first
        | (refine fun (_ : _ ≤ maxLen) => ?_; conv => whnf)
        | (refine And.intro (by omega) ?_; conv => whnf)
        | (refine get_ii_n (by omega) ?_; conv => whnf)
        | (refine aIf_dec (fun _ => ?_) (fun _ => ?_) <;> conv => whnf))
      all_goals (first | (exfalso; omega) | skip)
      refine loop_u (ι := Nat × List Bool) [false, false, false, true, false, false, false, false, false, false, false, false, false, false, false, true, true, true, false, false, false, true, true, true, false, false, false, false, false, false, false, false, false, false, false, false, false, false, false, false, false] (fun | (j, _) => [(23, .int .i64 j)]) (fun | (_, bs) => [(1, bs.map .bool)]) (fun | (j, bs) => j ≤ (fs.getD k []).length ∧ tkInv fs zs.length k j bs) (fun x => (fs.getD k []).length - x.1) ((0, bs)) ⟨Nat.zero_le _, ht⟩ ?_ ?_
      · conv => whnf
        repeat' (first
          | exact trivial
          | exact rfl
          | exact pureL_ints _ _
          | exact le_bools rfl
          | exact pureL_ii _ _
          | refine Or.inr ?_
          | refine And.intro ?_ ?_
          | exact Nat.le_of_ble_eq_true rfl)
      · rintro ⟨j, cs⟩ ⟨hj, hi⟩
        have hj : j ≤ (fs.getD k []).length := hj
        have hi : tkInv fs zs.length k j cs := hi
        have hcl := hi.1
        by_cases hjl : j < (fs.getD k []).length
        · have hr := hlk j hjl
          conv => whnf
          repeat' (first
            | (refine get_nat (by omega) ?_; conv => whnf)
            | (refine And.intro (by omega) ?_; conv => whnf)
            | (refine And.intro rfl (And.intro rfl (And.intro (by first | omega | (rw [List.length_map]; omega)) ?_)); conv => whnf)
            | (refine set_bool ?_ (by omega); conv => whnf)
            | (refine aIf_dec (fun _ => ?_) (fun _ => ?_) <;> conv => whnf))
          all_goals (first | (exfalso; omega) | skip)
          refine next_u (j + 1, cs.set ((fs.getD k []).getD j 0).toNat true) (show (fs.getD k []).length - (j + 1) < (fs.getD k []).length - j by omega) ⟨(by omega : j + 1 ≤ (fs.getD k []).length), tkInv_j hi hjl hr⟩ ?_
          conv => whnf
          repeat' (first
            | exact trivial
            | exact rfl
            | exact pureL_ints _ _
            | exact le_bools rfl
            | exact pureL_ii _ _
            | refine Or.inr ?_
            | refine And.intro ?_ ?_
            | exact Nat.le_of_ble_eq_true rfl
            | exact int_eq (by rw [IntWalk.i64_in _ (by omega)] <;> omega))
        · conv => whnf
          repeat' (first
            | (refine get_nat (by omega) ?_; conv => whnf)
            | (refine And.intro (by omega) ?_; conv => whnf)
            | (refine setb_n ?_ (by omega); conv => whnf)
            | (refine aIf_dec (fun _ => ?_) (fun _ => ?_) <;> conv => whnf))
          all_goals (first | (exfalso; omega) | skip)
          refine next_u (k + 1, cs) (show fs.length - (k + 1) < fs.length - k by omega) ⟨(by omega : k + 1 ≤ fs.length), tkInv_k hi hlt (by omega)⟩ ?_
          conv => whnf
          repeat' (first
            | exact trivial
            | exact rfl
            | exact pureL_ints _ _
            | exact le_bools rfl
            | exact pureL_ii _ _
            | refine Or.inr ?_
            | refine And.intro ?_ ?_
            | exact Nat.le_of_ble_eq_true rfl
            | exact int_eq (by rw [IntWalk.i64_in _ (by omega)] <;> omega))
    · have he : k = fs.length := by omega
      have hend := fun (l : Nat) (hl : l < zs.length) => tkInv_end ht he hl
      have hcl := ht.1
      conv => whnf
      repeat' (first
        | (refine fun (_ : _ ≤ maxLen) => ?_; conv => whnf)
        | (refine And.intro (by omega) ?_; conv => whnf)
        | (refine get_ii_n (by omega) ?_; conv => whnf)
        | (refine aIf_dec (fun _ => ?_) (fun _ => ?_) <;> conv => whnf))
      all_goals (first | (exfalso; omega) | skip)
      refine loop_u (ι := Nat) [false, false, false, false, false, false, false, false, false, false, false, false, false, false, false, false, false, false, false, false, false, false, false, false, false, false, false, false, false, false, false, false, true, true, true, false, false, false, false, false, false] (fun l => [(34, .int .i64 l)]) (fun _ => []) (fun l => l ≤ bs.length ∧ ∀ i, i < l → usedP fs i) (fun l => bs.length - l) (0) ⟨Nat.zero_le _, fun i hi => absurd hi (Nat.not_lt_zero _)⟩ ?_ ?_
      · conv => whnf
        repeat' (first
          | exact trivial
          | exact rfl
          | exact pureL_ints _ _
          | exact le_bools rfl
          | exact pureL_ii _ _
          | refine Or.inr ?_
          | refine And.intro ?_ ?_
          | exact Nat.le_of_ble_eq_true rfl)
      · rintro l ⟨hl, hall⟩
        have hl : l ≤ bs.length := hl
        have hall : ∀ i : Nat, i < l → usedP fs i := hall
        by_cases hll : l < bs.length
        · have hen := hend l (by omega)
          have hix : ((l : Int).toNat * 1) = l := by simp
          cases hb : bs.getD l false with
          | false =>
            have hb' : bs.getD ((l : Int).toNat * 1) false = false := by rw [hix]; exact hb
            have hno : ¬ usedP fs l := fun h => by rw [hen.2 h] at hb; cases hb
            conv => whnf
            repeat' (first
              | (refine And.intro (by omega) ?_; conv => whnf)
              | (refine getb_n (by omega) ?_; conv => whnf)
              | (refine aIf_ff (by assumption) ?_; conv => whnf)
              | refine aIf_not ?_
              | (refine aIf_dec (fun _ => ?_) (fun _ => ?_) <;> conv => whnf))
            all_goals (first | (exfalso; omega) | contradiction | skip)
            exact retS rfl (congrArg AV.bool (decide_eq_false fun (h : takenP fs zs.length) => hno (h l (by omega))).symm)
          | true =>
            have hb' : bs.getD ((l : Int).toNat * 1) false = true := by rw [hix]; exact hb
            have hyes := hen.1 hb
            conv => whnf
            repeat' (first
              | (refine And.intro (by omega) ?_; conv => whnf)
              | (refine getb_n (by omega) ?_; conv => whnf)
              | (refine aIf_tt (by assumption) ?_; conv => whnf)
              | refine aIf_not ?_
              | (refine aIf_dec (fun _ => ?_) (fun _ => ?_) <;> conv => whnf))
            all_goals (first | (exfalso; omega) | contradiction | skip)
            refine next_u (l + 1) (show bs.length - (l + 1) < bs.length - l by omega) ⟨(by omega : l + 1 ≤ bs.length), fun i hi => ?_⟩ ?_
            · rcases Nat.lt_succ_iff_lt_or_eq.1 hi with h | rfl
              · exact hall i h
              · exact hyes
            · conv => whnf
              repeat' (first
                | exact trivial
                | exact rfl
                | exact pureL_ints _ _
                | exact le_bools rfl
                | exact pureL_ii _ _
                | refine Or.inr ?_
                | refine And.intro ?_ ?_
                | exact Nat.le_of_ble_eq_true rfl
                | exact int_eq (by rw [IntWalk.i64_in _ (by omega)] <;> omega))
        · conv => whnf
          repeat' (first
            | (refine And.intro (by omega) ?_; conv => whnf)
            | (refine getb_n (by omega) ?_; conv => whnf)
            | refine aIf_not ?_
            | (refine aIf_dec (fun _ => ?_) (fun _ => ?_) <;> conv => whnf)
            | (refine aIf_in (fun _ => ?_) (fun _ => ?_) <;> conv => whnf))
          all_goals (first | (exfalso; omega) | contradiction | skip)
          exact retS rfl (congrArg AV.bool (decide_eq_true fun i hi => hall i (by omega)).symm)
theorem allLettersTaken_call {c d e : Nat} {zs o : List Int} {fs : List (List Int)} {env : List AV} {rows : List Row} {ctr low : Nat} {k : AV → St → Prop} (hpre : zs.length ≤ 1048576 ∧ lettersP fs zs.length) (h : k (.bool (decide (takenP fs zs.length))) ⟨env, rows, ctr + 1, low⟩) :
    CallB Try.prog 95 ⟨env, rows, ctr, low⟩ [.agg [.sl c zs.length (zs.map (.int .i64)), .sl d fs.length (fs.map (slI d)), .sl e o.length (o.map (.int .i64))]] k := callS_in allLettersTaken_sound (c, zs, d, fs, e, o) hpre rfl h
def sSumOk : CSpec := fnS (ι := IS) (fun | (c, zs, d, fs, e, o) => [.agg [.sl c zs.length (zs.map (.int .i64)), .sl d fs.length (fs.map (slI d)), .sl e o.length (o.map (.int .i64))]]) (fun _ => True) (fun | (_, zs, _, fs, _, o) => .bool (decide (sumP zs fs o)))
theorem sumP_f {zs o : List Int} {fs : List (List Int)} (h : ¬ sumP zs fs o) : AV.bool false = AV.bool (decide (sumP zs fs o)) := congrArg AV.bool (decide_eq_false h).symm
set_option maxHeartbeats 4000000 in
theorem iSumOk_sound : Sound Try.prog 47 sSumOk := by
  refine sound_of Try.func47 rfl (enters_of Try.func47 (by kernel_rfl) (by kernel_rfl)) ?_
  rintro ⟨c, zs, d, fs, e, o⟩ -
  have hmax : maxLen = 9223372036854775807 := rfl
  by_cases h5 : zs.length ≤ 5
  · have hz : zs.length ≤ 1048576 := by omega
    cases hb : btw zs 1 3 with
    | false =>
      conv => whnf
      repeat' (first
        | (refine aIf_t ?_; conv => whnf)
        | (refine aIf_f ?_; conv => whnf)
        | (refine fun (_ : _ ≤ maxLen) => ?_; conv => whnf)
        | (refine aGet_in rfl ?_; conv => whnf)
        | (refine And.intro rfl (And.intro (List.cons_ne_nil _ _) ?_); conv => whnf)
        | (refine callG_t ?_; conv => whnf)
        | (refine allBetween_call trivial ?_; conv => whnf)
        | (refine And.intro (pureL_ints _ _) ?_; conv => whnf)
        | (refine aIf_ff (by assumption) ?_; conv => whnf)
        | refine aIf_eqf ?_
        | refine aIf_not ?_
        | (refine aIf_dec (fun _ => ?_) (fun _ => ?_) <;> conv => whnf))
      all_goals (first | (exfalso; omega) | contradiction | exact retS rfl (sumP_f fun h => by rw [h.2.1] at hb; cases hb))
    | true =>
      by_cases hf : 1 ≤ fs.length ∧ fs.length ≤ 4
      · by_cases ho : letP o zs.length
        · conv => whnf
          repeat' (first
            | (refine aIf_t ?_; conv => whnf)
            | (refine aIf_f ?_; conv => whnf)
            | (refine fun (_ : _ ≤ maxLen) => ?_; conv => whnf)
            | (refine aGet_in rfl ?_; conv => whnf)
            | (refine load_same ?_; conv => whnf)
            | (refine And.intro rfl (And.intro (List.cons_ne_nil _ _) ?_); conv => whnf)
            | (refine And.intro (Nat.le_of_ble_eq_true rfl) ?_; conv => whnf)
            | (refine callG_t ?_; conv => whnf)
            | (refine allBetween_call trivial ?_; conv => whnf)
            | (refine And.intro (pureL_ii _ _) ?_; conv => whnf)
            | (refine lettersOk_call (by first | omega | assumption | (refine ⟨?_, ?_⟩ <;> first | assumption | omega) | (refine ⟨?_, ?_, ?_⟩ <;> first | assumption | omega)) ?_; conv => whnf)
            | (refine takeN_in ?_; conv => whnf)
            | (refine And.intro (pureL_ints _ _) ?_; conv => whnf)
            | (refine And.intro (by kernel_rfl) ?_; conv => whnf)
            | (refine aIf_tt (by assumption) ?_; conv => whnf)
            | refine aIf_eqf ?_
            | refine aIf_not ?_
            | (refine aIf_dec (fun _ => ?_) (fun _ => ?_) <;> conv => whnf))
          all_goals (first | (exfalso; omega) | contradiction | skip)
          refine loop_u (ι := Nat) [false, true, false, false, false, false, false, false, false, false, false, false, false, false, false, false, false, false, false, false, false, false, false, false, false, false, false, false, false, false, false, false, false, true, true, true, false, false, false, false, false, false, false, false, false, false] (fun k => [(35, .int .i64 k)]) (fun _ => []) (fun k => k ≤ fs.length ∧ lettersP (fs.take k) zs.length) (fun k => fs.length - k) (0) ⟨Nat.zero_le _, fun f hf => by simp at hf⟩ ?_ ?_
          · conv => whnf
            repeat' (first
              | exact trivial
              | exact rfl
              | exact pureL_ints _ _
              | exact pureL_ii _ _
              | refine Or.inr ?_
              | refine And.intro ?_ ?_
              | exact Nat.le_of_ble_eq_true rfl)
          · rintro k ⟨hk, hall⟩
            have hk : k ≤ fs.length := hk
            have hall : lettersP (fs.take k) zs.length := hall
            by_cases hlt : k < fs.length
            · by_cases hlk : letP (fs.getD k []) zs.length
              · conv => whnf
                repeat' (first
                  | (refine And.intro (by omega) ?_; conv => whnf)
                  | (refine load_same ?_; conv => whnf)
                  | (refine And.intro (Nat.le_of_ble_eq_true rfl) ?_; conv => whnf)
                  | (refine callG_t ?_; conv => whnf)
                  | (refine get_ii_n (by omega) ?_; conv => whnf)
                  | (refine And.intro (pureL_ii _ _) ?_; conv => whnf)
                  | (refine lettersOk_call (by first | omega | assumption | (refine ⟨?_, ?_⟩ <;> first | assumption | omega) | (refine ⟨?_, ?_, ?_⟩ <;> first | assumption | omega)) ?_; conv => whnf)
                  | (refine allLettersTaken_call (by first | omega | assumption | (refine ⟨?_, ?_⟩ <;> first | assumption | omega) | (refine ⟨?_, ?_, ?_⟩ <;> first | assumption | omega)) ?_; conv => whnf)
                  | (refine takeN_in ?_; conv => whnf)
                  | (refine And.intro (pureL_ints _ _) ?_; conv => whnf)
                  | (refine And.intro (by kernel_rfl) ?_; conv => whnf)
                  | refine aIf_not ?_
                  | (refine aIf_dec (fun _ => ?_) (fun _ => ?_) <;> conv => whnf))
                all_goals (first | (exfalso; omega) | contradiction | skip)
                refine next_u (k + 1) (show fs.length - (k + 1) < fs.length - k by omega) ⟨(by omega : k + 1 ≤ fs.length), (lettersP_succ hlt).2 ⟨hall, hlk⟩⟩ ?_
                conv => whnf
                repeat' (first
                  | exact trivial
                  | exact rfl
                  | exact pureL_ints _ _
                  | exact pureL_ii _ _
                  | refine Or.inr ?_
                  | refine And.intro ?_ ?_
                  | exact Nat.le_of_ble_eq_true rfl
                  | exact int_eq (by rw [IntWalk.i64_in _ (by omega)] <;> omega))
              · conv => whnf
                repeat' (first
                  | (refine And.intro (by omega) ?_; conv => whnf)
                  | (refine load_same ?_; conv => whnf)
                  | (refine And.intro (Nat.le_of_ble_eq_true rfl) ?_; conv => whnf)
                  | (refine callG_t ?_; conv => whnf)
                  | (refine get_ii_n (by omega) ?_; conv => whnf)
                  | (refine And.intro (pureL_ii _ _) ?_; conv => whnf)
                  | (refine lettersOk_call (by first | omega | assumption | (refine ⟨?_, ?_⟩ <;> first | assumption | omega) | (refine ⟨?_, ?_, ?_⟩ <;> first | assumption | omega)) ?_; conv => whnf)
                  | (refine allLettersTaken_call (by first | omega | assumption | (refine ⟨?_, ?_⟩ <;> first | assumption | omega) | (refine ⟨?_, ?_, ?_⟩ <;> first | assumption | omega)) ?_; conv => whnf)
                  | (refine takeN_in ?_; conv => whnf)
                  | (refine And.intro (pureL_ints _ _) ?_; conv => whnf)
                  | (refine And.intro (by kernel_rfl) ?_; conv => whnf)
                  | refine aIf_not ?_
                  | (refine aIf_dec (fun _ => ?_) (fun _ => ?_) <;> conv => whnf))
                all_goals (first | (exfalso; omega) | contradiction | skip)
                exact retS rfl (sumP_f fun h => hlk (lettersP_k h.2.2.2.2.1 hlt))
            · have he : k = fs.length := by omega
              rw [he, List.take_length] at hall
              conv => whnf
              repeat' (first
                | (refine And.intro (by omega) ?_; conv => whnf)
                | (refine load_same ?_; conv => whnf)
                | (refine And.intro (Nat.le_of_ble_eq_true rfl) ?_; conv => whnf)
                | (refine callG_t ?_; conv => whnf)
                | (refine get_ii_n (by omega) ?_; conv => whnf)
                | (refine And.intro (pureL_ii _ _) ?_; conv => whnf)
                | (refine lettersOk_call (by first | omega | assumption | (refine ⟨?_, ?_⟩ <;> first | assumption | omega) | (refine ⟨?_, ?_, ?_⟩ <;> first | assumption | omega)) ?_; conv => whnf)
                | (refine allLettersTaken_call (by first | omega | assumption | (refine ⟨?_, ?_⟩ <;> first | assumption | omega) | (refine ⟨?_, ?_, ?_⟩ <;> first | assumption | omega)) ?_; conv => whnf)
                | (refine takeN_in ?_; conv => whnf)
                | (refine And.intro (pureL_ints _ _) ?_; conv => whnf)
                | (refine And.intro (by kernel_rfl) ?_; conv => whnf)
                | refine aIf_not ?_
                | (refine aIf_dec (fun _ => ?_) (fun _ => ?_) <;> conv => whnf))
              all_goals (first | (exfalso; omega) | contradiction | skip)
              refine retS rfl (bool_eq ?_)
              simp only [decide_eq_true_eq]
              exact ⟨fun h => ⟨h5, hb, hf, ho, hall, h⟩, fun h => h.2.2.2.2.2⟩
        · conv => whnf
          repeat' (first
            | (refine aIf_t ?_; conv => whnf)
            | (refine aIf_f ?_; conv => whnf)
            | (refine fun (_ : _ ≤ maxLen) => ?_; conv => whnf)
            | (refine aGet_in rfl ?_; conv => whnf)
            | (refine load_same ?_; conv => whnf)
            | (refine And.intro rfl (And.intro (List.cons_ne_nil _ _) ?_); conv => whnf)
            | (refine And.intro (Nat.le_of_ble_eq_true rfl) ?_; conv => whnf)
            | (refine callG_t ?_; conv => whnf)
            | (refine allBetween_call trivial ?_; conv => whnf)
            | (refine And.intro (pureL_ii _ _) ?_; conv => whnf)
            | (refine lettersOk_call (by first | omega | assumption | (refine ⟨?_, ?_⟩ <;> first | assumption | omega) | (refine ⟨?_, ?_, ?_⟩ <;> first | assumption | omega)) ?_; conv => whnf)
            | (refine takeN_in ?_; conv => whnf)
            | (refine And.intro (pureL_ints _ _) ?_; conv => whnf)
            | (refine And.intro (by kernel_rfl) ?_; conv => whnf)
            | (refine aIf_tt (by assumption) ?_; conv => whnf)
            | refine aIf_eqf ?_
            | refine aIf_not ?_
            | (refine aIf_dec (fun _ => ?_) (fun _ => ?_) <;> conv => whnf))
          all_goals (first | (exfalso; omega) | contradiction | exact retS rfl (sumP_f fun h => ho h.2.2.2.1))
      · conv => whnf
        repeat' (first
          | (refine aIf_t ?_; conv => whnf)
          | (refine aIf_f ?_; conv => whnf)
          | (refine fun (_ : _ ≤ maxLen) => ?_; conv => whnf)
          | (refine aGet_in rfl ?_; conv => whnf)
          | (refine And.intro (by omega) ?_; conv => whnf)
          | (refine load_same ?_; conv => whnf)
          | (refine And.intro rfl (And.intro (List.cons_ne_nil _ _) ?_); conv => whnf)
          | (refine callG_t ?_; conv => whnf)
          | (refine allBetween_call trivial ?_; conv => whnf)
          | (refine lettersOk_call (by first | omega | assumption | (refine ⟨?_, ?_⟩ <;> first | assumption | omega) | (refine ⟨?_, ?_, ?_⟩ <;> first | assumption | omega)) ?_; conv => whnf)
          | (refine takeN_in ?_; conv => whnf)
          | (refine And.intro (pureL_ints _ _) ?_; conv => whnf)
          | (refine aIf_tt (by assumption) ?_; conv => whnf)
          | refine aIf_eqf ?_
          | refine aIf_not ?_
          | (refine aIf_dec (fun _ => ?_) (fun _ => ?_) <;> conv => whnf))
        all_goals (first | (exfalso; omega) | contradiction | exact retS rfl (sumP_f fun h => hf h.2.2.1))
  · conv => whnf
    repeat' (first
      | (refine aIf_t ?_; conv => whnf)
      | (refine aIf_f ?_; conv => whnf)
      | (refine fun (_ : _ ≤ maxLen) => ?_; conv => whnf)
      | (refine aGet_in rfl ?_; conv => whnf)
      | (refine And.intro (by omega) ?_; conv => whnf)
      | (refine load_same ?_; conv => whnf)
      | (refine And.intro rfl (And.intro (List.cons_ne_nil _ _) ?_); conv => whnf)
      | (refine callG_t ?_; conv => whnf)
      | (refine allBetween_call trivial ?_; conv => whnf)
      | (refine lettersOk_call (by first | omega | assumption | (refine ⟨?_, ?_⟩ <;> first | assumption | omega) | (refine ⟨?_, ?_, ?_⟩ <;> first | assumption | omega)) ?_; conv => whnf)
      | (refine takeN_in ?_; conv => whnf)
      | refine aIf_eqf ?_
      | refine aIf_not ?_
      | (refine aIf_dec (fun _ => ?_) (fun _ => ?_) <;> conv => whnf)
      | (refine aIf_in (fun _ => ?_) (fun _ => ?_) <;> conv => whnf))
    all_goals (first | (exfalso; omega) | contradiction | exact retS rfl (sumP_f fun h => h5 h.1))
theorem iSumOk_call {c d e : Nat} {zs o : List Int} {fs : List (List Int)} {env : List AV} {rows : List Row} {ctr low : Nat} {k : AV → St → Prop} (hpre : True) (h : k (.bool (decide (sumP zs fs o))) ⟨env, rows, ctr + 1, low⟩) :
    CallB Try.prog 47 ⟨env, rows, ctr, low⟩ [.agg [.sl c zs.length (zs.map (.int .i64)), .sl d fs.length (fs.map (slI d)), .sl e o.length (o.map (.int .i64))]] k := callS_in iSumOk_sound (c, zs, d, fs, e, o) hpre rfl h
end Go.Proofs.Ytilimbdpdpfalaa

/- Chapter 4: what the laws do with index sums. -/
namespace Go.Am
open Go.RowKit
abbrev Sm := List Int × List (List Int) × List Int
def smRows (t tt : TypeId) (v : Nat) (M : Sm) : List Row := [⟨v, t, 1, M.1.map (.int .i64)⟩, ⟨v, tt, 1, M.2.1.map (ownI t)⟩, ⟨v, t, 1, M.2.2.map (.int .i64)⟩]
/-- An index sum in three new rows; the same and a bool. -/
def fnIS {ι : Type} (t tt : TypeId) (args : ι → List AV) (pre : ι → Prop) (M : ι → Sm) : CSpec :=
  { ι := ι, inout := [], args := args, ins := fun _ => [], pre := pre, post := fun x r ic news => ic = [] ∧ r = .agg [.ref 0 0 0 (M x).1.length, .ref 1 0 0 (M x).2.1.length, .ref 2 0 0 (M x).2.2.length] ∧ news = smRows t tt 0 (M x) }
def fnISB {ι : Type} (t tt : TypeId) (args : ι → List AV) (pre : ι → Prop) (M : ι → Sm) (b : ι → Bool) : CSpec :=
  { ι := ι, inout := [], args := args, ins := fun _ => [], pre := pre, post := fun x r ic news => ic = [] ∧ r = .tup [.agg [.ref 0 0 0 (M x).1.length, .ref 1 0 0 (M x).2.1.length, .ref 2 0 0 (M x).2.2.length], .bool (b x)] ∧ news = smRows t tt 0 (M x) }
theorem news_sm {env : List AV} {rows : List Row} {ctr low : Nat} {T : List Nat} {t tt : TypeId} {M : Sm} : (⟨env, rows, ctr, low⟩ : St).news T (smRows t tt 0 M) = smRows t tt ctr M := by
  simp [smRows, St.news, protL_back (protL_ints .i64 M.1), protL_back (protL_oi t M.2.1), protL_back (protL_ints .i64 M.2.2)]
section
variable {P : Program} {f : FuncId} {ι : Type} {t tt : TypeId} {args : ι → List AV} {pre : ι → Prop} {M : ι → Sm} {b : ι → Bool} {env : List AV} {rows : List Row} {ctr low : Nat} {k : AV → St → Prop}
theorem callIS_in (hs : Sound P f (fnIS t tt args pre M)) (x : ι) (hpre : pre x)
    (hk : k (.agg [.ref rows.length ctr 0 (M x).1.length, .ref (rows.length + 1) ctr 0 (M x).2.1.length, .ref (rows.length + 2) ctr 0 (M x).2.2.length]) ⟨env, rows ++ smRows t tt ctr (M x), ctr + 1, low⟩) : CallB P f ⟨env, rows, ctr, low⟩ (args x) k := callB_in (sp := fnIS t tt args pre M) hs rfl x rfl hpre (by
  rintro r news ⟨-, rfl, rfl⟩
  rw [news_sm]
  simpa [AV.back, backL, backT, backV, Nat.add_comm] using hk)
theorem callISB_in (hs : Sound P f (fnISB t tt args pre M b)) (x : ι) (hpre : pre x)
    (hk : k (.tup [.agg [.ref rows.length ctr 0 (M x).1.length, .ref (rows.length + 1) ctr 0 (M x).2.1.length, .ref (rows.length + 2) ctr 0 (M x).2.2.length], .bool (b x)]) ⟨env, rows ++ smRows t tt ctr (M x), ctr + 1, low⟩) : CallB P f ⟨env, rows, ctr, low⟩ (args x) k := callB_in (sp := fnISB t tt args pre M b) hs rfl x rfl hpre (by
  rintro r news ⟨-, rfl, rfl⟩
  rw [news_sm]
  simpa [AV.back, backL, backT, backV, Nat.add_comm] using hk)
end
theorem retIS {env : List AV} {rows : List Row} {ctr τ1 τ2 τ3 v1 v2 v3 n1 n2 n3 : Nat} {t tt : TypeId} {xs zs : List Int} {yss : List (List Int)} {M : Sm} (hM : M = (xs, yss, zs)) (h12 : τ1 ≠ τ2) (h13 : τ1 ≠ τ3) (h23 : τ2 ≠ τ3) (h1 : rows[τ1]? = some ⟨v1, t, 1, xs.map (.int .i64)⟩) (h2 : rows[τ2]? = some ⟨v2, tt, 1, yss.map (ownI t)⟩) (h3 : rows[τ3]? = some ⟨v3, t, 1, zs.map (.int .i64)⟩)
    (e1 : n1 = xs.length) (e2 : n2 = yss.length) (e3 : n3 = zs.length) :
    RetB ⟨env, rows, ctr, 0⟩ [] (fun r ic news => ic = [] ∧ r = .agg [.ref 0 0 0 M.1.length, .ref 1 0 0 M.2.1.length, .ref 2 0 0 M.2.2.length] ∧ news = smRows t tt 0 M) (.agg [.ref τ1 v1 0 n1, .ref τ2 v2 0 n2, .ref τ3 v3 0 n3]) := by
  subst hM; subst e1; subst e2; subst e3
  refine retP1 (Q := fun r news => r = .agg [.ref 0 0 0 xs.length, .ref 1 0 0 yss.length, .ref 2 0 0 zs.length] ∧ news = smRows t tt 0 (xs, yss, zs)) (L := [τ1, τ2, τ3]) (by simp [h12, h13, h23]) ?_ ?_ ⟨rfl, rfl⟩
  · simp [insOf, smRows, h1, h2, h3, protL_ren (protL_ints .i64 xs), protL_ren (protL_oi t yss), protL_ren (protL_ints .i64 zs)]
  · have a : (τ1 == τ2) = false := by simpa using h12
    have b : (τ1 == τ3) = false := by simpa using h13
    have c : (τ2 == τ3) = false := by simpa using h23
    simp [AV.ren, renL, h1, h2, h3, List.idxOf, List.findIdx_cons, a, b, c]
theorem retISB {env : List AV} {rows : List Row} {ctr τ1 τ2 τ3 v1 v2 v3 n1 n2 n3 : Nat} {t tt : TypeId} {xs zs : List Int} {yss : List (List Int)} {M : Sm} {b b' : Bool} (hM : M = (xs, yss, zs)) (hb : b = b') (h12 : τ1 ≠ τ2) (h13 : τ1 ≠ τ3) (h23 : τ2 ≠ τ3) (h1 : rows[τ1]? = some ⟨v1, t, 1, xs.map (.int .i64)⟩) (h2 : rows[τ2]? = some ⟨v2, tt, 1, yss.map (ownI t)⟩) (h3 : rows[τ3]? = some ⟨v3, t, 1, zs.map (.int .i64)⟩)
    (e1 : n1 = xs.length) (e2 : n2 = yss.length) (e3 : n3 = zs.length) :
    RetB ⟨env, rows, ctr, 0⟩ [] (fun r ic news => ic = [] ∧ r = .tup [.agg [.ref 0 0 0 M.1.length, .ref 1 0 0 M.2.1.length, .ref 2 0 0 M.2.2.length], .bool b'] ∧ news = smRows t tt 0 M) (.tup [.agg [.ref τ1 v1 0 n1, .ref τ2 v2 0 n2, .ref τ3 v3 0 n3], .bool b]) := by
  subst hM; subst e1; subst e2; subst e3; subst hb
  refine retP1 (Q := fun r news => r = .tup [.agg [.ref 0 0 0 xs.length, .ref 1 0 0 yss.length, .ref 2 0 0 zs.length], .bool b] ∧ news = smRows t tt 0 (xs, yss, zs)) (L := [τ1, τ2, τ3]) (by simp [h12, h13, h23]) ?_ ?_ ⟨rfl, rfl⟩
  · simp [insOf, smRows, h1, h2, h3, protL_ren (protL_ints .i64 xs), protL_ren (protL_oi t yss), protL_ren (protL_ints .i64 zs)]
  · have a : (τ1 == τ2) = false := by simpa using h12
    have b : (τ1 == τ3) = false := by simpa using h13
    have c : (τ2 == τ3) = false := by simpa using h23
    simp [AV.ren, renL, h1, h2, h3, List.idxOf, List.findIdx_cons, a, b, c]
/-- A call that writes into the three rows of an index sum, and answers a number. -/
def fnMS {ι : Type} (t tt : TypeId) (M : ι → Sm) (m : ι → Int) (pre : ι → Prop) (r : ι → Int) (M' : ι → Sm) : CSpec :=
  { ι := ι, inout := [true], args := fun x => [.agg [.ref 0 0 0 (M x).1.length, .ref 1 0 0 (M x).2.1.length, .ref 2 0 0 (M x).2.2.length], .int .i64 (m x)], ins := fun x => smRows t tt 0 (M x), pre := pre, post := fun x u ic news => u = .int .i64 (r x) ∧ ic = [(M' x).1.map (.int .i64), (M' x).2.1.map (ownI t), (M' x).2.2.map (.int .i64)] ∧ news = [] }
theorem callMS_in {P : Program} {f : FuncId} {ι : Type} {t tt : TypeId} {M M' : ι → Sm} {m : ι → Int} {pre : ι → Prop} {r : ι → Int} (hs : Sound P f (fnMS t tt M m pre r M')) (x : ι) (hpre : pre x) {env : List AV} {rows : List Row} {ctr low τ1 τ2 τ3 v1 v2 v3 n1 n2 n3 : Nat} {i : Int} {k : AV → St → Prop}
    (h1 : rows[τ1]? = some ⟨v1, t, 1, (M x).1.map (.int .i64)⟩) (h2 : rows[τ2]? = some ⟨v2, tt, 1, (M x).2.1.map (ownI t)⟩) (h3 : rows[τ3]? = some ⟨v3, t, 1, (M x).2.2.map (.int .i64)⟩) (h12 : τ1 ≠ τ2) (h13 : τ1 ≠ τ3) (h23 : τ2 ≠ τ3) (e1 : n1 = (M x).1.length) (e2 : n2 = (M x).2.1.length) (e3 : n3 = (M x).2.2.length) (hi : i = m x)
    (hk : k (.int .i64 (r x)) ⟨env, setRows rows [τ1, τ2, τ3] [(M' x).1.map (.int .i64), (M' x).2.1.map (ownI t), (M' x).2.2.map (.int .i64)], ctr + 1, low⟩) :
    CallG P f ⟨env, rows, ctr, low⟩ [.agg [.ref τ1 v1 0 n1, .ref τ2 v2 0 n2, .ref τ3 v3 0 n3], .int .i64 i] k := by
  subst e1; subst e2; subst e3; subst hi
  refine .inr ⟨[τ1, τ2, τ3], _, hs, [.agg [.ref 0 0 0 (M x).1.length, .ref 1 0 0 (M x).2.1.length, .ref 2 0 0 (M x).2.2.length], .int .i64 (m x)], smRows t tt 0 (M x), by simp [h12, h13, h23], ?_, ?_, x, rfl, rfl, hpre, ?_⟩
  · have a : (τ1 == τ2) = false := by simpa using h12
    have b : (τ1 == τ3) = false := by simpa using h13
    have c : (τ2 == τ3) = false := by simpa using h23
    have ea : callArg ⟨env, rows, ctr, low⟩ [τ1, τ2, τ3] true (.agg [.ref τ1 v1 0 (M x).1.length, .ref τ2 v2 0 (M x).2.1.length, .ref τ3 v3 0 (M x).2.2.length]) = some (.agg [.ref 0 0 0 (M x).1.length, .ref 1 0 0 (M x).2.1.length, .ref 2 0 0 (M x).2.2.length]) := by
      simp [callArg, AV.ren, renL, h1, h2, h3, List.idxOf, List.findIdx_cons, a, b, c]
    show (callArg ⟨env, rows, ctr, low⟩ [τ1, τ2, τ3] true (.agg [.ref τ1 v1 0 (M x).1.length, .ref τ2 v2 0 (M x).2.1.length, .ref τ3 v3 0 (M x).2.2.length])).bind _ = _
    rw [ea]
    rfl
  · simp [insOf, smRows, h1, h2, h3, protL_ren (protL_ints .i64 (M x).1), protL_ren (protL_oi t (M x).2.1), protL_ren (protL_ints .i64 (M x).2.2)]
  · rintro u ic news ⟨rfl, rfl, rfl⟩ _
    show k (.int .i64 (r x)) ⟨env, setRows rows [τ1, τ2, τ3] [backL _ [τ1, τ2, τ3] ((M' x).1.map (.int .i64)), backL _ [τ1, τ2, τ3] ((M' x).2.1.map (ownI t)), backL _ [τ1, τ2, τ3] ((M' x).2.2.map (.int .i64))] ++ [], ctr + 1, low⟩
    rw [List.append_nil, protL_back (protL_ints _ _), protL_back (protL_oi _ _), protL_back (protL_ints _ _)]; exact hk
theorem retMS {env : List AV} {ctr : Nat} {t tt : TypeId} {M M' : Sm} {v1 v2 v3 : Nat} {rest : List Row} {us ws : List Int} {vss : List (List Int)} {i i' : Int} (e : i = i') (hM : M' = (us, vss, ws)) :
    RetB ⟨env, ⟨v1, t, 1, us.map (.int .i64)⟩ :: ⟨v2, tt, 1, vss.map (ownI t)⟩ :: ⟨v3, t, 1, ws.map (.int .i64)⟩ :: rest, ctr, 3⟩ (smRows t tt 0 M) (fun u ic news => u = .int .i64 i' ∧ ic = [M'.1.map (.int .i64), M'.2.1.map (ownI t), M'.2.2.map (.int .i64)] ∧ news = []) (.int .i64 i) := by
  subst e; subst hM
  refine RetB1.ret ⟨[], [⟨0, t, 1, us.map (.int .i64)⟩, ⟨0, tt, 1, vss.map (ownI t)⟩, ⟨0, t, 1, ws.map (.int .i64)⟩], .int .i64 i, [us.map (.int .i64), vss.map (ownI t), ws.map (.int .i64)], [], (show ([0, 1, 2] : List Nat).Nodup by decide), ?_, rfl, rfl, rfl, rfl, rfl, rfl⟩
  show insOf _ [0, 1, 2] [0, 1, 2] = _
  simp [insOf, protL_ren (protL_ints .i64 us), protL_ren (protL_oi t vss), protL_ren (protL_ints .i64 ws)]
end Go.Am
namespace Go.Proofs.Ytilimbdpdpfalaa
set_option maxRecDepth 20000
open Go.RowKit Go.Am
attribute [local irreducible] aPlan aGet aIf aLoop aCall RetB NextB CallB CallG aCut aSet aAppend
def isSize (zs : List Int) (fs : List (List Int)) (o : List Int) : Nat := zs.length + (fs.length + tot fs) + o.length
set_option maxRecDepth 10000 in
theorem szIndexSum_sound : Sound Try.prog 44 (fnP (ι := IS × Int) (fun | ((c, zs, d, fs, e, o), m) => [.agg [.sl c zs.length (zs.map (.int .i64)), .sl d fs.length (fs.map (slI d)), .sl e o.length (o.map (.int .i64))], .int .i64 m]) (fun | (_, m) => 0 ≤ m ∧ m ≤ 1048576) (fun | ((_, zs, _, fs, _, o), m) => leftN (isSize zs fs o) m)) := by
  refine sound_of Try.func44 rfl (enters_of Try.func44 (by kernel_rfl) (by kernel_rfl)) ?_
  rintro ⟨⟨c, zs, d, fs, e, o⟩, m⟩ hpre
  have hpre : 0 ≤ m ∧ m ≤ 1048576 := hpre
  conv => whnf
  repeat' (first
    | (refine aGet_in rfl ?_; conv => whnf)
    | (refine And.intro rfl (And.intro (List.cons_ne_nil _ _) ?_); conv => whnf)
    | (refine callG_t ?_; conv => whnf)
    | (refine szIntS_call (by omega) (fun _ _ => ?_); conv => whnf)
    | (refine And.intro (pureL_ii _ _) ?_; conv => whnf)
    | (refine szIntSS_call (by omega) (fun _ _ => ?_); conv => whnf)
    | (refine And.intro (pureL_ints _ _) ?_; conv => whnf)
    | (refine aIf_dec (fun _ => ?_) (fun _ => ?_) <;> conv => whnf))
  · exact retP1 (L := []) (by simp) rfl rfl ⟨_, rfl, rfl, .inl (by decide)⟩
  · exact retP1 (L := []) (by simp) rfl rfl ⟨_, rfl, rfl, .inl (by decide)⟩
  · exact retP1 (L := []) (by simp) rfl rfl ⟨_, rfl, rfl, .inl (by decide)⟩
  · exact retP1 (L := []) (by simp) rfl rfl ⟨_, rfl, rfl, .inr (by unfold isSize; omega)⟩
theorem szIndexSum_call {c d e : Nat} {zs o : List Int} {fs : List (List Int)} {m : Int} {env : List AV} {rows : List Row} {ctr low : Nat} {k : AV → St → Prop} (hpre : 0 ≤ m ∧ m ≤ 1048576) (hk : ∀ q : Int, (q < 0 ∨ (0 ≤ q ∧ q = m - ((isSize zs fs o : Nat) : Int))) → k (.int .i64 q) ⟨env, rows, ctr + 1, low⟩) :
    CallB Try.prog 44 ⟨env, rows, ctr, low⟩ [.agg [.sl c zs.length (zs.map (.int .i64)), .sl d fs.length (fs.map (slI d)), .sl e o.length (o.map (.int .i64))], .int .i64 m] k := callP_in szIndexSum_sound ((c, zs, d, fs, e, o), m) hpre (by
  rintro r news ⟨n, rfl, rfl, h⟩
  simpa [AV.back, St.news] using hk n h)
theorem toIndexSum_sound : Sound Try.prog 46 (fnIS (ι := IS) 3 46 (fun | (c, zs, d, fs, e, o) => [.agg [.sl c zs.length (zs.map (.int .i64)), .sl d fs.length (fs.map (slI d)), .sl e o.length (o.map (.int .i64))]]) (fun | (_, zs, _, fs, _, o) => isSize zs fs o ≤ 1048576) (fun | (_, zs, _, fs, _, o) => (zs, fs, o))) := by
  refine sound_of Try.func46 rfl (enters_of Try.func46 (by kernel_rfl) (by kernel_rfl)) ?_
  rintro ⟨c, zs, d, fs, e, o⟩ hpre
  have hpre : zs.length + (fs.length + tot fs) + o.length ≤ 1048576 := hpre
  conv => whnf
  repeat' (first
    | (refine aGet_in rfl ?_; conv => whnf)
    | (refine load_same ?_; conv => whnf)
    | (refine And.intro rfl (And.intro (List.cons_ne_nil _ _) ?_); conv => whnf)
    | (refine And.intro (Nat.le_of_ble_eq_true rfl) ?_; conv => whnf)
    | (refine callG_t ?_; conv => whnf)
    | (refine And.intro (pureL_ii _ _) ?_; conv => whnf)
    | (refine toIntSS_call (by constructor <;> omega) ?_; conv => whnf)
    | (refine takeN_in ?_; conv => whnf)
    | (refine And.intro (pureL_ints _ _) ?_; conv => whnf)
    | (refine toIntS_call (by omega) ?_; conv => whnf)
    | (refine set_force ?_; conv => whnf)
    | (refine And.intro (by kernel_rfl) ?_; conv => whnf))
  exact retIS rfl (by decide) (by decide) (by decide) rfl rfl rfl rfl rfl rfl
theorem toIndexSum_call {c d e : Nat} {zs o : List Int} {fs : List (List Int)} {env : List AV} {rows : List Row} {ctr low : Nat} {k : AV → St → Prop} (hpre : isSize zs fs o ≤ 1048576) (h : k (.agg [.ref rows.length ctr 0 zs.length, .ref (rows.length + 1) ctr 0 fs.length, .ref (rows.length + 2) ctr 0 o.length]) ⟨env, rows ++ [⟨ctr, 3, 1, zs.map (.int .i64)⟩, ⟨ctr, 46, 1, fs.map (ownI 3)⟩, ⟨ctr, 3, 1, o.map (.int .i64)⟩], ctr + 1, low⟩) :
    CallB Try.prog 46 ⟨env, rows, ctr, low⟩ [.agg [.sl c zs.length (zs.map (.int .i64)), .sl d fs.length (fs.map (slI d)), .sl e o.length (o.map (.int .i64))]] k := callIS_in toIndexSum_sound (c, zs, d, fs, e, o) hpre h
set_option maxRecDepth 10000 in
theorem eqIndexSum_sound : Sound Try.prog 48 (fnS (ι := IS × IS) (fun | ((c, zs, d, fs, e, o), (c', zs', d', fs', e', o')) => [.agg [.sl c zs.length (zs.map (.int .i64)), .sl d fs.length (fs.map (slI d)), .sl e o.length (o.map (.int .i64))], .agg [.sl c' zs'.length (zs'.map (.int .i64)), .sl d' fs'.length (fs'.map (slI d')), .sl e' o'.length (o'.map (.int .i64))]]) (fun _ => True) (fun | ((_, zs, _, fs, _, o), (_, zs', _, fs', _, o')) => .bool (decide ((zs, fs, o) = (zs', fs', o'))))) := by
  refine sound_of Try.func48 rfl (enters_of Try.func48 (by kernel_rfl) (by kernel_rfl)) ?_
  rintro ⟨⟨c, zs, d, fs, e, o⟩, ⟨c', zs', d', fs', e', o'⟩⟩ -
  conv => whnf
  repeat' (first
    | (refine aGet_in rfl ?_; conv => whnf)
    | (refine And.intro rfl (And.intro (List.cons_ne_nil _ _) ?_); conv => whnf)
    | (refine callG_t ?_; conv => whnf)
    | (refine And.intro (pureL_ii _ _) ?_; conv => whnf)
    | (refine eqIntSS_call trivial ?_; conv => whnf)
    | (refine And.intro (pureL_ints _ _) ?_; conv => whnf)
    | (refine eqIntS_call ?_; conv => whnf)
    | refine aIf_not ?_
    | (refine aIf_dec (fun _ => ?_) (fun _ => ?_) <;> conv => whnf))
  all_goals refine retS rfl (congrArg AV.bool ?_)
  all_goals simp_all
theorem eqIndexSum_call {c d e c' d' e' : Nat} {zs o zs' o' : List Int} {fs fs' : List (List Int)} {env : List AV} {rows : List Row} {ctr low : Nat} {k : AV → St → Prop} (h : k (.bool (decide ((zs, fs, o) = (zs', fs', o')))) ⟨env, rows, ctr + 1, low⟩) :
    CallB Try.prog 48 ⟨env, rows, ctr, low⟩ [.agg [.sl c zs.length (zs.map (.int .i64)), .sl d fs.length (fs.map (slI d)), .sl e o.length (o.map (.int .i64))], .agg [.sl c' zs'.length (zs'.map (.int .i64)), .sl d' fs'.length (fs'.map (slI d')), .sl e' o'.length (o'.map (.int .i64))]] k := callS_in eqIndexSum_sound ((c, zs, d, fs, e, o), (c', zs', d', fs', e', o')) trivial rfl h
def sMarkS : CSpec := fnMS (ι := List Int × List (List Int) × List Int × Int) 3 46 (fun x => (x.1, x.2.1, x.2.2.1)) (fun x => x.2.2.2) (fun x => isSize x.1 x.2.1 x.2.2.1 ≤ 1048576 ∧ 0 ≤ x.2.2.2 ∧ x.2.2.2 ≤ 1000000) (fun x => x.2.2.2 + x.1.length + tot x.2.1 + x.2.2.1.length) (fun x => (marks x.2.2.2 x.1.length, marksII (x.2.2.2 + x.1.length) x.2.1, marks (x.2.2.2 + x.1.length + tot x.2.1) x.2.2.1.length))
set_option maxHeartbeats 4000000 in
theorem markIndexSum_sound : Sound Try.prog 51 sMarkS := by
  refine sound_of Try.func51 rfl (enters_of Try.func51 (by kernel_rfl) (by kernel_rfl)) ?_
  rintro ⟨zs, fs, o, m⟩ hpre
  have hpre : zs.length + (fs.length + tot fs) + o.length ≤ 1048576 ∧ 0 ≤ m ∧ m ≤ 1000000 := hpre
  conv => whnf
  dsimp only
  repeat' (first
    | (refine aGet_in rfl ?_; conv => whnf)
    | (refine And.intro rfl (And.intro (List.cons_ne_nil _ _) ?_); conv => whnf)
    | (refine mark_call rfl (by rfl) (by omega) ?_; conv => whnf)
    | (refine markII_call rfl rfl (by omega) ?_; conv => whnf))
  exact retMS rfl rfl
theorem markIndexSum_call {zs o : List Int} {fs : List (List Int)} {m : Int} {env : List AV} {rows : List Row} {ctr low τ1 τ2 τ3 v1 v2 v3 n1 n2 n3 : Nat} {k : AV → St → Prop} (h1 : rows[τ1]? = some ⟨v1, 3, 1, zs.map (.int .i64)⟩) (h2 : rows[τ2]? = some ⟨v2, 46, 1, fs.map (ownI 3)⟩) (h3 : rows[τ3]? = some ⟨v3, 3, 1, o.map (.int .i64)⟩) (h12 : τ1 ≠ τ2) (h13 : τ1 ≠ τ3) (h23 : τ2 ≠ τ3) (e1 : n1 = zs.length) (e2 : n2 = fs.length) (e3 : n3 = o.length) (hpre : isSize zs fs o ≤ 1048576 ∧ 0 ≤ m ∧ m ≤ 1000000)
    (hk : k (.int .i64 (m + zs.length + tot fs + o.length)) ⟨env, setRows rows [τ1, τ2, τ3] [(marks m zs.length).map (.int .i64), (marksII (m + zs.length) fs).map (ownI 3), (marks (m + zs.length + tot fs) o.length).map (.int .i64)], ctr + 1, low⟩) : CallG Try.prog 51 ⟨env, rows, ctr, low⟩ [.agg [.ref τ1 v1 0 n1, .ref τ2 v2 0 n2, .ref τ3 v3 0 n3], .int .i64 m] k :=
  callMS_in markIndexSum_sound (zs, fs, o, m) hpre h1 h2 h3 h12 h13 h23 e1 e2 e3 rfl hk
end Go.Proofs.Ytilimbdpdpfalaa
