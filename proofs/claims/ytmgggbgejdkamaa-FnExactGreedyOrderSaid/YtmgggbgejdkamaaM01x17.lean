import Derived.Test.YtmgggbgejdkamaaM01x15
import Derived.Test.YtmgggbgejdkamaaM01x16
import Derived.Test.YtmgggbgejdkamaaM01x12
/- l1Turn. -/
namespace Go.Proofs.Ytmgggbgejdkamaa
set_option maxRecDepth 20000
open Go.RowKit Go.Am
theorem append_int {env : List AV} {rows : List Row} {ctr low τ ver n τ2 ver2 : Nat} {zs : List Int} {z : Int} {k : AV → St → Prop} (hr : rows[τ]? = some ⟨ver, 3, 1, zs.map (.int .i64)⟩) (hr2 : rows[τ2]? = some ⟨ver2, 3, 1, [.int .i64 z]⟩) (hn : n = zs.length) (hle : n ≤ 1000000) (hlow : low ≤ τ)
    (hk : k (.ref τ ctr 0 (n + 1)) ⟨env, rows.set τ ⟨ctr, 3, 1, (zs ++ [z]).map (.int .i64)⟩, ctr + 1, low⟩) : aAppend Try.prog ⟨env, rows, ctr, low⟩ 22 (.ref τ ver 0 n) (.ref τ2 ver2 0 1) k := by
  have hb : (bsz Try.prog 3) = some 8 := by kernel_rfl
  have hz : zeroCellsA Try.prog 3 = some [.int .i64 0] := by kernel_rfl
  have hu : Try.prog.underlying 22 = some (.slice 3) := by kernel_rfl
  have hs : ∀ K : Nat → Prop, K 1 → aSz Try.prog 3 K := fun K h => by
    have : tsz Try.prog 3 = some 1 := by kernel_rfl
    unfold aSz; rw [this]; exact h
  unfold aAppend
  rw [hu]
  simp only
  rw [hz]
  simp only
  refine hs _ ?_
  unfold aElems aRow
  simp only [hr2]
  rw [if_pos trivial, if_pos (.inr trivial)]
  refine ⟨⟨Nat.le_refl _, rfl⟩, ⟨rfl, by rw [hb]; rfl, by rw [hb]; decide⟩, ?_⟩
  simp only [hr]
  rw [if_pos trivial, if_pos (by simp)]
  refine ⟨by simp [hn], fun h => absurd h (by decide), fun _ h => ?_, fun _ _ => ⟨hlow, by rw [hb]; simp only [Option.getD_some]; omega, ?_⟩⟩
  · exfalso; simp at h; omega
  · have e : (zs.map (AV.int .i64)).take n = zs.map (.int .i64) := List.take_of_length_le (by simp [hn])
    simpa [e] using hk
attribute [local irreducible] aPlan aGet aIf aLoop aCall RetB NextB CallB CallG aCut aSet aAppend

theorem take_next {l : List Int} {k : Nat} (h : k < l.length) : l.take k ++ [l.getD k 0] = l.take (k + 1) := by
  rw [List.take_add_one, List.getElem?_eq_getElem h]
  simp [List.getD, List.getElem?_eq_getElem h]

set_option maxRecDepth 10000 in
theorem l1Turn_sound : Sound Try.prog 100 (fnL (ι := Nat × List Int × Nat × List Int) 3 (fun | (c, xs, d, ax) => [.sl c xs.length (xs.map (.int .i64)), .sl d ax.length (ax.map (.int .i64))]) (fun | (_, xs, _, ax) => ax.length ≤ 3 ∧ ∀ k, k < ax.length → 0 ≤ ax.getD k 0 ∧ ax.getD k 0 < xs.length) (fun | (_, xs, _, ax) => turned xs ax)) := by
  refine sound_of Try.func100 rfl (enters_of Try.func100 (by kernel_rfl) (by kernel_rfl)) ?_
  rintro ⟨c, xs, d, ax⟩ ⟨h3, hin⟩
  conv => whnf
  repeat' (first
    | (refine append_same ?_; conv => whnf)
    | (refine And.intro (And.intro (by kernel_rfl) (And.intro rfl (Nat.le_of_ble_eq_true rfl))) ?_; conv => whnf))
  refine loop_in (ι := Nat) (fun k => ⟨[.sl c xs.length (xs.map (.int .i64)), .sl d ax.length (ax.map (.int .i64)), .un, .un, .un, .ref 1 3 0 k, .int .i64 k, .un, .un, .un, .un, .un, .un, .un, .un, .un, .un, .un, .un, .un, .un, .un, .un, .un, .un], [⟨1, 3, 1, []⟩, ⟨3, 3, 1, ((turned xs ax).take k).map (.int .i64)⟩], 4, 0⟩)
    (fun k => k ≤ ax.length) (fun k => ax.length - k) 0 (Nat.zero_le _) ?_ ?_
  · repeat' (first
      | exact trivial
      | exact rfl
      | exact pureL_ints _ _
      | exact Or.inl (And.intro rfl rfl)
      | refine And.intro ?_ ?_
      | exact Nat.le_of_ble_eq_true rfl)
  · intro k hk
    have hk : k ≤ ax.length := hk
    have hin := hin k
    conv => whnf
    repeat' (first
      | (refine fun (_ : _ ≤ maxLen) => ?_; conv => whnf)
      | (refine get_nat (by omega) ?_; conv => whnf)
      | (refine get_int (by omega) ?_; conv => whnf)
      | (refine And.intro (by omega) ?_; conv => whnf)
      | (refine append_same ?_; conv => whnf)
      | (refine append_int rfl rfl (by first | rfl | (simp only [List.length_take, turned_length]; omega)) (by omega) (Nat.le_of_ble_eq_true rfl) ?_; conv => whnf)
      | (refine And.intro (And.intro (by kernel_rfl) (And.intro rfl (Nat.le_of_ble_eq_true rfl))) ?_; conv => whnf)
      | (refine aIf_dec (fun _ => ?_) (fun _ => ?_) <;> conv => whnf))
    · have e := take_next (l := turned xs ax) (k := k) (by rw [turned_length]; omega)
      rw [turned_getD (by omega)] at e
      rw [e]
      refine next_in (k + 1) (show ax.length - (k + 1) < ax.length - k by omega) (by omega) ?_
      repeat' (first
        | exact trivial
        | exact rfl
        | exact pureL_ints _ _
        | exact Or.inl (And.intro rfl rfl)
        | exact le_ints rfl
        | refine And.intro ?_ ?_
        | exact Nat.le_of_ble_eq_true rfl
        | exact int_eq (by rw [IntWalk.i64_in _ (by omega)] <;> omega))
    · have e : k = ax.length := by omega
      subst e
      have e : (turned xs ax).take ax.length = turned xs ax := List.take_of_length_le (by rw [turned_length]; exact Nat.le_refl _)
      rw [e]
      exact retL rfl rfl rfl (turned_length xs ax).symm
theorem l1Turn_call {c d : Nat} {xs ax : List Int} {env : List AV} {rows : List Row} {ctr low : Nat} {k : AV → St → Prop} (hpre : ax.length ≤ 3 ∧ ∀ k, k < ax.length → 0 ≤ ax.getD k 0 ∧ ax.getD k 0 < xs.length) (hk : k (.ref rows.length ctr 0 (turned xs ax).length) ⟨env, rows ++ [⟨ctr, 3, 1, (turned xs ax).map (.int .i64)⟩], ctr + 1, low⟩) :
    CallB Try.prog 100 ⟨env, rows, ctr, low⟩ [.sl c xs.length (xs.map (.int .i64)), .sl d ax.length (ax.map (.int .i64))] k := callL_in l1Turn_sound (c, xs, d, ax) hpre hk

end Go.Proofs.Ytmgggbgejdkamaa

/- Chapter 4: SumCost and FactorShape of both sides. -/
namespace Go.Proofs.Ytmgggbgejdkamaa
set_option maxRecDepth 20000
open Go.RowKit Go.Am
set_option linter.unusedSimpArgs false
attribute [local irreducible] aPlan aGet aIf aLoop aCall RetB NextB CallB CallG aCut aSet aAppend
def scN (zs : List Int) (fs : List (List Int)) (o : List Int) : Int := if sumP zs fs o then cntTo zs zs.length else -1
def sSumCost : CSpec := fnS (ι := IS) (fun | (c, zs, d, fs, e, o) => [.agg [.sl c zs.length (zs.map (.int .i64)), .sl d fs.length (fs.map (slI d)), .sl e o.length (o.map (.int .i64))]]) (fun _ => True) (fun | (_, zs, _, fs, _, o) => .int .i64 (scN zs fs o))
theorem sSumCost_sound : Sound Try.prog 51 sSumCost := by
  refine sound_of Try.func51 rfl (enters_of Try.func51 (by kernel_rfl) (by kernel_rfl)) ?_
  rintro ⟨c, zs, d, fs, e, o⟩ -
  by_cases h : sumP zs fs o
  · conv => whnf
    repeat' (first
      | (refine aGet_in rfl ?_; conv => whnf)
      | (refine load_same ?_; conv => whnf)
      | (refine And.intro rfl (And.intro (List.cons_ne_nil _ _) ?_); conv => whnf)
      | (refine And.intro (Nat.le_of_ble_eq_true rfl) ?_; conv => whnf)
      | (refine callG_t ?_; conv => whnf)
      | (refine append_same ?_; conv => whnf)
      | (refine And.intro (pureL_ii _ _) ?_; conv => whnf)
      | (refine sSumOk_call trivial ?_; conv => whnf)
      | (refine takeN_in ?_; conv => whnf)
      | (refine And.intro (pureL_ints _ _) ?_; conv => whnf)
      | (refine l1Count_call ?_; conv => whnf)
      | (refine And.intro (by kernel_rfl) ?_; conv => whnf)
      | refine aIf_not ?_
      | (refine aIf_dec (fun _ => ?_) (fun _ => ?_) <;> conv => whnf))
    all_goals (first | contradiction | exact retS rfl (int_eq (if_pos h).symm))
  · conv => whnf
    repeat' (first
      | (refine aGet_in rfl ?_; conv => whnf)
      | (refine load_same ?_; conv => whnf)
      | (refine And.intro rfl (And.intro (List.cons_ne_nil _ _) ?_); conv => whnf)
      | (refine And.intro (Nat.le_of_ble_eq_true rfl) ?_; conv => whnf)
      | (refine callG_t ?_; conv => whnf)
      | (refine append_same ?_; conv => whnf)
      | (refine And.intro (pureL_ii _ _) ?_; conv => whnf)
      | (refine sSumOk_call trivial ?_; conv => whnf)
      | (refine takeN_in ?_; conv => whnf)
      | (refine And.intro (pureL_ints _ _) ?_; conv => whnf)
      | (refine l1Count_call ?_; conv => whnf)
      | (refine And.intro (by kernel_rfl) ?_; conv => whnf)
      | refine aIf_not ?_
      | (refine aIf_dec (fun _ => ?_) (fun _ => ?_) <;> conv => whnf))
    all_goals (first | contradiction | exact retS rfl (int_eq (if_neg h).symm))
theorem iSumCost_sound : Sound Try.prog 52 sSumCost := by
  refine sound_of Try.func52 rfl (enters_of Try.func52 (by kernel_rfl) (by kernel_rfl)) ?_
  rintro ⟨c, zs, d, fs, e, o⟩ -
  have hmax : maxLen = 9223372036854775807 := rfl
  by_cases h : sumP zs fs o
  · conv => whnf
    repeat' (first
      | (refine fun (_ : _ ≤ maxLen) => ?_; conv => whnf)
      | (refine aGet_in rfl ?_; conv => whnf)
      | (refine load_same ?_; conv => whnf)
      | (refine And.intro rfl (And.intro (List.cons_ne_nil _ _) ?_); conv => whnf)
      | (refine And.intro (Nat.le_of_ble_eq_true rfl) ?_; conv => whnf)
      | (refine callG_t ?_; conv => whnf)
      | (refine append_same ?_; conv => whnf)
      | (refine And.intro (pureL_ii _ _) ?_; conv => whnf)
      | (refine iSumOk_call trivial ?_; conv => whnf)
      | (refine takeN_in ?_; conv => whnf)
      | (refine And.intro (pureL_ints _ _) ?_; conv => whnf)
      | (refine And.intro (by kernel_rfl) ?_; conv => whnf)
      | refine aIf_not ?_
      | (refine aIf_dec (fun _ => ?_) (fun _ => ?_) <;> conv => whnf))
    all_goals (first | contradiction | skip)
    refine loop_u (ι := Nat) [false, false, false, true, false, false, false, false, false, false, true, true, true, false, false, false, false, false, false, false, false] (fun k => [(3, .int .i64 (cntTo zs k)), (12, .int .i64 k)]) (fun _ => []) (fun k => k ≤ zs.length) (fun k => zs.length - k) (0) (Nat.zero_le _) ?_ ?_
    · conv => whnf
      repeat' (first
        | exact trivial
        | exact rfl
        | exact pureL_ints _ _
        | exact pureL_ii _ _
        | refine Or.inr ?_
        | refine And.intro ?_ ?_
        | exact Nat.le_of_ble_eq_true rfl)
    · rintro k hk
      have hk : k ≤ zs.length := hk
      by_cases hlt : k < zs.length
      · conv => whnf
        repeat' (first
          | (refine get_nat (by omega) ?_; conv => whnf)
          | (refine And.intro (by omega) ?_; conv => whnf)
          | (refine append_same ?_; conv => whnf)
          | (refine aIf_dec (fun _ => ?_) (fun _ => ?_) <;> conv => whnf))
        all_goals (first | (exfalso; omega) | skip)
        refine next_u (k + 1) (show zs.length - (k + 1) < zs.length - k by omega) (by exact (by omega : k + 1 ≤ zs.length)) ?_
        conv => whnf
        repeat' (first
          | exact trivial
          | exact rfl
          | exact pureL_ints _ _
          | exact pureL_ii _ _
          | refine Or.inr ?_
          | refine And.intro ?_ ?_
          | exact Nat.le_of_ble_eq_true rfl
          | exact int_eq (by rw [IntWalk.i64_in _ (by omega)] <;> omega))
      · have e : k = zs.length := by omega
        conv => whnf
        repeat' (first
          | (refine get_nat (by omega) ?_; conv => whnf)
          | (refine And.intro (by omega) ?_; conv => whnf)
          | (refine append_same ?_; conv => whnf)
          | (refine aIf_dec (fun _ => ?_) (fun _ => ?_) <;> conv => whnf))
        all_goals (first | (exfalso; omega) | skip)
        exact retS rfl (int_eq (by rw [e]; exact (if_pos h).symm))
  · conv => whnf
    repeat' (first
      | (refine fun (_ : _ ≤ maxLen) => ?_; conv => whnf)
      | (refine aGet_in rfl ?_; conv => whnf)
      | (refine load_same ?_; conv => whnf)
      | (refine And.intro rfl (And.intro (List.cons_ne_nil _ _) ?_); conv => whnf)
      | (refine And.intro (Nat.le_of_ble_eq_true rfl) ?_; conv => whnf)
      | (refine callG_t ?_; conv => whnf)
      | (refine append_same ?_; conv => whnf)
      | (refine And.intro (pureL_ii _ _) ?_; conv => whnf)
      | (refine iSumOk_call trivial ?_; conv => whnf)
      | (refine takeN_in ?_; conv => whnf)
      | (refine And.intro (pureL_ints _ _) ?_; conv => whnf)
      | (refine And.intro (by kernel_rfl) ?_; conv => whnf)
      | refine aIf_not ?_
      | (refine aIf_dec (fun _ => ?_) (fun _ => ?_) <;> conv => whnf))
    all_goals (first | contradiction | exact retS rfl (int_eq (if_neg h).symm))
theorem sSumCost_call {c d e : Nat} {zs o : List Int} {fs : List (List Int)} {env : List AV} {rows : List Row} {ctr low : Nat} {k : AV → St → Prop} (hpre : True) (h : k (.int .i64 (scN zs fs o)) ⟨env, rows, ctr + 1, low⟩) :
    CallB Try.prog 51 ⟨env, rows, ctr, low⟩ [.agg [.sl c zs.length (zs.map (.int .i64)), .sl d fs.length (fs.map (slI d)), .sl e o.length (o.map (.int .i64))]] k := callS_in sSumCost_sound (c, zs, d, fs, e, o) hpre rfl h
theorem iSumCost_call {c d e : Nat} {zs o : List Int} {fs : List (List Int)} {env : List AV} {rows : List Row} {ctr low : Nat} {k : AV → St → Prop} (hpre : True) (h : k (.int .i64 (scN zs fs o)) ⟨env, rows, ctr + 1, low⟩) :
    CallB Try.prog 52 ⟨env, rows, ctr, low⟩ [.agg [.sl c zs.length (zs.map (.int .i64)), .sl d fs.length (fs.map (slI d)), .sl e o.length (o.map (.int .i64))]] k := callS_in iSumCost_sound (c, zs, d, fs, e, o) hpre rfl h

/-! FactorShape. -/
theorem l4Shape_sound : Sound Try.prog 94 (fnL (ι := IS × Nat × List Int) 3 (fun | ((c, zs, d, fs, e, o), g, ls) => [.agg [.sl c zs.length (zs.map (.int .i64)), .sl d fs.length (fs.map (slI d)), .sl e o.length (o.map (.int .i64))], .sl g ls.length (ls.map (.int .i64))]) (fun | ((_, zs, _), _, ls) => ls.length ≤ 3 ∧ ∀ k, k < ls.length → 0 ≤ ls.getD k 0 ∧ ls.getD k 0 < zs.length) (fun | ((_, zs, _), _, ls) => turned zs ls)) := by
  refine sound_of Try.func94 rfl (enters_of Try.func94 (by kernel_rfl) (by kernel_rfl)) ?_
  rintro ⟨⟨c, zs, d, fs, e, o⟩, g, ls⟩ hpre
  have hpre : ls.length ≤ 3 ∧ ∀ k, k < ls.length → 0 ≤ ls.getD k 0 ∧ ls.getD k 0 < zs.length := hpre
  conv => whnf
  repeat' (first
    | (refine aGet_in rfl ?_; conv => whnf)
    | (refine And.intro rfl (And.intro (List.cons_ne_nil _ _) ?_); conv => whnf)
    | (refine callG_t ?_; conv => whnf)
    | (refine append_same ?_; conv => whnf)
    | (refine And.intro (pureL_ints _ _) ?_; conv => whnf)
    | (refine l1Turn_call (by assumption) ?_; conv => whnf))
  exact retL rfl rfl rfl rfl
theorem l4Shape_call {c d e g : Nat} {zs o ls : List Int} {fs : List (List Int)} {env : List AV} {rows : List Row} {ctr low : Nat} {k : AV → St → Prop} (hpre : ls.length ≤ 3 ∧ ∀ k, k < ls.length → 0 ≤ ls.getD k 0 ∧ ls.getD k 0 < zs.length) (h : k (.ref rows.length ctr 0 (turned zs ls).length) ⟨env, rows ++ [⟨ctr, 3, 1, (turned zs ls).map (.int .i64)⟩], ctr + 1, low⟩) :
    CallB Try.prog 94 ⟨env, rows, ctr, low⟩ [.agg [.sl c zs.length (zs.map (.int .i64)), .sl d fs.length (fs.map (slI d)), .sl e o.length (o.map (.int .i64))], .sl g ls.length (ls.map (.int .i64))] k := callL_in l4Shape_sound ((c, zs, d, fs, e, o), g, ls) hpre h
def fsP (zs : List Int) (fs : List (List Int)) (o : List Int) (i : Int) : Prop := sumP zs fs o ∧ 0 ≤ i ∧ i < fs.length
instance (zs : List Int) (fs : List (List Int)) (o : List Int) (i : Int) : Decidable (fsP zs fs o i) := by unfold fsP; infer_instance
def fsL (zs : List Int) (fs : List (List Int)) (o : List Int) (i : Int) : List Int := if fsP zs fs o i then turned zs (fs.getD i.toNat []) else []
theorem fsL_len (zs : List Int) (fs : List (List Int)) (o : List Int) (i : Int) : (fsL zs fs o i).length ≤ 3 := by
  unfold fsL; split
  · rename_i h
    rw [turned_length]; exact (lettersP_k h.1.2.2.2.2.1 (by have := h.2; omega)).1
  · exact Nat.zero_le _
def sFactorShape : CSpec := fnLB (ι := IS × Int) 3 (fun | ((c, zs, d, fs, e, o), i) => [.agg [.sl c zs.length (zs.map (.int .i64)), .sl d fs.length (fs.map (slI d)), .sl e o.length (o.map (.int .i64))], .int .i64 i]) (fun _ => True) (fun | ((_, zs, _, fs, _, o), i) => fsL zs fs o i) (fun | ((_, zs, _, fs, _, o), i) => decide (fsP zs fs o i))
theorem retFs {env : List AV} {rows : List Row} {ctr τ ver : Nat} {t : TypeId} {zs zs' : List Int} {b b' : Bool} {r : Row} {n : Nat} (hz : zs' = zs) (hb : b' = b) (hr : rows[τ]? = some r) (hv : r.ver = ver) (e : r = ⟨ver, t, 1, zs.map (.int .i64)⟩) (hn : n = zs.length) :
    RetB ⟨env, rows, ctr, 0⟩ [] (fun r ic news => r = .tup [.ref 0 0 0 zs'.length, .bool b'] ∧ ic = [] ∧ news = [⟨0, t, 1, zs'.map (.int .i64)⟩]) (.tup [.ref τ ver 0 n, .bool b]) := by
  subst hz; exact retLB hr hv e hn hb.symm
theorem fs_t {zs : List Int} {fs : List (List Int)} {o : List Int} {i : Int} (h : sumP zs fs o) (hi : 0 ≤ i ∧ i < fs.length) : fsL zs fs o i = turned zs (fs.getD i.toNat []) ∧ decide (fsP zs fs o i) = true := ⟨if_pos ⟨h, hi⟩, decide_eq_true ⟨h, hi⟩⟩
theorem fs_f {zs : List Int} {fs : List (List Int)} {o : List Int} {i : Int} (h : ¬ fsP zs fs o i) : fsL zs fs o i = [] ∧ decide (fsP zs fs o i) = false := ⟨if_neg h, decide_eq_false h⟩
theorem iFactorShape_sound : Sound Try.prog 54 sFactorShape := by
  refine sound_of Try.func54 rfl (enters_of Try.func54 (by kernel_rfl) (by kernel_rfl)) ?_
  rintro ⟨⟨c, zs, d, fs, e, o⟩, i⟩ -
  by_cases h : sumP zs fs o
  · by_cases hi : 0 ≤ i ∧ i < fs.length
    · obtain ⟨e1, e2⟩ := fs_t h hi
      have hl := lettersP_k h.2.2.2.2.1 (show i.toNat < fs.length by omega)
      have h3 : (fs.getD i.toNat []).length ≤ 1048576 := by have := hl.1; omega
      have hin := difP_in hl.2
      conv => whnf
      repeat' (first
        | (refine plan_in (id := 3) [0, 1, 2, 3, 4, 5, 6, 7, 8, 9] (by kernel_rfl) (by kernel_rfl) ?_; conv => whnf)
        | (refine aIf_t ?_; conv => whnf)
        | (refine aIf_f ?_; conv => whnf)
        | (refine fun (_ : _ ≤ maxLen) => ?_; conv => whnf)
        | (refine aGet_in rfl ?_; conv => whnf)
        | (refine And.intro (by omega) ?_; conv => whnf)
        | (refine load_same ?_; conv => whnf)
        | (refine And.intro rfl (And.intro (List.cons_ne_nil _ _) ?_); conv => whnf)
        | (refine And.intro (Nat.le_of_ble_eq_true rfl) ?_; conv => whnf)
        | (refine callG_t ?_; conv => whnf)
        | (refine pickNums_call (by first | omega | assumption | (refine ⟨?_, ?_⟩ <;> first | assumption | omega) | (refine ⟨?_, ?_, ?_⟩ <;> first | assumption | omega)) ?_; conv => whnf)
        | (refine indexOk_call trivial ?_; conv => whnf)
        | (refine append_same ?_; conv => whnf)
        | (refine get_ii (by omega) ?_; conv => whnf)
        | (refine And.intro (pureL_ii _ _) ?_; conv => whnf)
        | (refine iSumOk_call trivial ?_; conv => whnf)
        | (refine takeN_in ?_; conv => whnf)
        | (refine And.intro (pureL_ints _ _) ?_; conv => whnf)
        | (refine And.intro (by kernel_rfl) ?_; conv => whnf)
        | refine aIf_eqf ?_
        | refine aIf_not ?_
        | (refine aIf_dec (fun _ => ?_) (fun _ => ?_) <;> conv => whnf))
      all_goals (first | contradiction | exact retFs e1 e2 rfl rfl rfl rfl)
    · obtain ⟨e1, e2⟩ := fs_f (zs := zs) (fs := fs) (o := o) (i := i) fun h' => hi h'.2
      conv => whnf
      repeat' (first
        | (refine plan_in (id := 3) [0, 1, 2, 3, 4, 5, 6, 7, 8, 9] (by kernel_rfl) (by kernel_rfl) ?_; conv => whnf)
        | (refine aIf_t ?_; conv => whnf)
        | (refine aIf_f ?_; conv => whnf)
        | (refine fun (_ : _ ≤ maxLen) => ?_; conv => whnf)
        | (refine aGet_in rfl ?_; conv => whnf)
        | (refine And.intro (by omega) ?_; conv => whnf)
        | (refine load_same ?_; conv => whnf)
        | (refine And.intro rfl (And.intro (List.cons_ne_nil _ _) ?_); conv => whnf)
        | (refine And.intro (Nat.le_of_ble_eq_true rfl) ?_; conv => whnf)
        | (refine callG_t ?_; conv => whnf)
        | (refine pickNums_call (by first | omega | assumption | (refine ⟨?_, ?_⟩ <;> first | assumption | omega) | (refine ⟨?_, ?_, ?_⟩ <;> first | assumption | omega)) ?_; conv => whnf)
        | (refine indexOk_call trivial ?_; conv => whnf)
        | (refine append_same ?_; conv => whnf)
        | (refine get_ii_n (by omega) ?_; conv => whnf)
        | (refine And.intro (pureL_ii _ _) ?_; conv => whnf)
        | (refine iSumOk_call trivial ?_; conv => whnf)
        | (refine takeN_in ?_; conv => whnf)
        | (refine And.intro (pureL_ints _ _) ?_; conv => whnf)
        | (refine And.intro (by kernel_rfl) ?_; conv => whnf)
        | refine aIf_eqf ?_
        | refine aIf_not ?_
        | (refine aIf_dec (fun _ => ?_) (fun _ => ?_) <;> conv => whnf))
      all_goals (first | contradiction | exact retFs e1 e2 rfl rfl rfl rfl)
  · obtain ⟨e1, e2⟩ := fs_f (zs := zs) (fs := fs) (o := o) (i := i) fun h' => h h'.1
    conv => whnf
    repeat' (first
      | (refine plan_in (id := 3) [0, 1, 2, 3, 4, 5, 6, 7, 8, 9] (by kernel_rfl) (by kernel_rfl) ?_; conv => whnf)
      | (refine aIf_t ?_; conv => whnf)
      | (refine aIf_f ?_; conv => whnf)
      | (refine fun (_ : _ ≤ maxLen) => ?_; conv => whnf)
      | (refine aGet_in rfl ?_; conv => whnf)
      | (refine And.intro (by omega) ?_; conv => whnf)
      | (refine load_same ?_; conv => whnf)
      | (refine And.intro rfl (And.intro (List.cons_ne_nil _ _) ?_); conv => whnf)
      | (refine And.intro (Nat.le_of_ble_eq_true rfl) ?_; conv => whnf)
      | (refine callG_t ?_; conv => whnf)
      | (refine indexOk_call trivial ?_; conv => whnf)
      | (refine append_same ?_; conv => whnf)
      | (refine get_ii (by omega) ?_; conv => whnf)
      | (refine And.intro (pureL_ii _ _) ?_; conv => whnf)
      | (refine iSumOk_call trivial ?_; conv => whnf)
      | (refine takeN_in ?_; conv => whnf)
      | (refine And.intro (pureL_ints _ _) ?_; conv => whnf)
      | (refine And.intro (by kernel_rfl) ?_; conv => whnf)
      | refine aIf_eqf ?_
      | refine aIf_not ?_
      | (refine aIf_dec (fun _ => ?_) (fun _ => ?_) <;> conv => whnf))
    all_goals (first | contradiction | exact retFs e1 e2 rfl rfl rfl rfl)
theorem sFactorShape_sound : Sound Try.prog 53 sFactorShape := by
  refine sound_of Try.func53 rfl (enters_of Try.func53 (by kernel_rfl) (by kernel_rfl)) ?_
  rintro ⟨⟨c, zs, d, fs, e, o⟩, i⟩ -
  by_cases h : sumP zs fs o
  · have h14 := h.2.2.1
    have hw : IntKind.i64.wrap ((fs.length : Int) - 1) = fs.length - 1 := IntWalk.i64_in _ (by omega)
    by_cases hi : 0 ≤ i ∧ i < fs.length
    · obtain ⟨e1, e2⟩ := fs_t h hi
      have hl := lettersP_k h.2.2.2.2.1 (show i.toNat < fs.length by omega)
      have h3 := hl.1
      have hin := difP_in hl.2
      have hi' : 0 ≤ i ∧ i ≤ IntKind.i64.wrap ((fs.length : Int) - 1) := by omega
      conv => whnf
      repeat' (first
        | (refine plan_in (id := 3) [0, 1, 2, 3, 4, 5, 6, 7, 8] (by kernel_rfl) (by kernel_rfl) ?_; conv => whnf)
        | (refine aIf_t ?_; conv => whnf)
        | (refine aIf_f ?_; conv => whnf)
        | (refine fun (_ : _ ≤ maxLen) => ?_; conv => whnf)
        | (refine aGet_in rfl ?_; conv => whnf)
        | (refine And.intro (by omega) ?_; conv => whnf)
        | (refine load_same ?_; conv => whnf)
        | (refine And.intro rfl (And.intro (List.cons_ne_nil _ _) ?_); conv => whnf)
        | (refine And.intro (Nat.le_of_ble_eq_true rfl) ?_; conv => whnf)
        | (refine callG_t ?_; conv => whnf)
        | (refine append_same ?_; conv => whnf)
        | (refine get_ii (by omega) ?_; conv => whnf)
        | (refine And.intro (pureL_ii _ _) ?_; conv => whnf)
        | (refine l4Shape_call (by first | omega | assumption | (refine ⟨?_, ?_⟩ <;> first | assumption | omega) | (refine ⟨?_, ?_, ?_⟩ <;> first | assumption | omega)) ?_; conv => whnf)
        | (refine sSumOk_call trivial ?_; conv => whnf)
        | (refine takeN_in ?_; conv => whnf)
        | (refine And.intro (pureL_ints _ _) ?_; conv => whnf)
        | (refine in_call ?_; conv => whnf)
        | (refine And.intro (by kernel_rfl) ?_; conv => whnf)
        | refine aIf_eqf ?_
        | refine aIf_not ?_
        | (refine aIf_dec (fun _ => ?_) (fun _ => ?_) <;> conv => whnf))
      all_goals (first | contradiction | exact retFs e1 e2 rfl rfl rfl rfl)
    · obtain ⟨e1, e2⟩ := fs_f (zs := zs) (fs := fs) (o := o) (i := i) fun h' => hi h'.2
      have hi' : ¬ (0 ≤ i ∧ i ≤ IntKind.i64.wrap ((fs.length : Int) - 1)) := by omega
      conv => whnf
      repeat' (first
        | (refine plan_in (id := 3) [0, 1, 2, 3, 4, 5, 6, 7, 8] (by kernel_rfl) (by kernel_rfl) ?_; conv => whnf)
        | (refine aIf_t ?_; conv => whnf)
        | (refine aIf_f ?_; conv => whnf)
        | (refine fun (_ : _ ≤ maxLen) => ?_; conv => whnf)
        | (refine aGet_in rfl ?_; conv => whnf)
        | (refine And.intro (by omega) ?_; conv => whnf)
        | (refine load_same ?_; conv => whnf)
        | (refine And.intro rfl (And.intro (List.cons_ne_nil _ _) ?_); conv => whnf)
        | (refine And.intro (Nat.le_of_ble_eq_true rfl) ?_; conv => whnf)
        | (refine callG_t ?_; conv => whnf)
        | (refine append_same ?_; conv => whnf)
        | (refine get_ii_n (by omega) ?_; conv => whnf)
        | (refine And.intro (pureL_ii _ _) ?_; conv => whnf)
        | (refine l4Shape_call (by first | omega | assumption | (refine ⟨?_, ?_⟩ <;> first | assumption | omega) | (refine ⟨?_, ?_, ?_⟩ <;> first | assumption | omega)) ?_; conv => whnf)
        | (refine sSumOk_call trivial ?_; conv => whnf)
        | (refine takeN_in ?_; conv => whnf)
        | (refine And.intro (pureL_ints _ _) ?_; conv => whnf)
        | (refine in_call ?_; conv => whnf)
        | (refine And.intro (by kernel_rfl) ?_; conv => whnf)
        | refine aIf_eqf ?_
        | refine aIf_not ?_
        | (refine aIf_dec (fun _ => ?_) (fun _ => ?_) <;> conv => whnf))
      all_goals (first | contradiction | exact retFs e1 e2 rfl rfl rfl rfl)
  · obtain ⟨e1, e2⟩ := fs_f (zs := zs) (fs := fs) (o := o) (i := i) fun h' => h h'.1
    conv => whnf
    repeat' (first
      | (refine plan_in (id := 3) [0, 1, 2, 3, 4, 5, 6, 7, 8] (by kernel_rfl) (by kernel_rfl) ?_; conv => whnf)
      | (refine aIf_t ?_; conv => whnf)
      | (refine aIf_f ?_; conv => whnf)
      | (refine fun (_ : _ ≤ maxLen) => ?_; conv => whnf)
      | (refine aGet_in rfl ?_; conv => whnf)
      | (refine load_same ?_; conv => whnf)
      | (refine And.intro rfl (And.intro (List.cons_ne_nil _ _) ?_); conv => whnf)
      | (refine And.intro (Nat.le_of_ble_eq_true rfl) ?_; conv => whnf)
      | (refine callG_t ?_; conv => whnf)
      | (refine append_same ?_; conv => whnf)
      | (refine And.intro (pureL_ii _ _) ?_; conv => whnf)
      | (refine sSumOk_call trivial ?_; conv => whnf)
      | (refine takeN_in ?_; conv => whnf)
      | (refine And.intro (pureL_ints _ _) ?_; conv => whnf)
      | (refine in_call ?_; conv => whnf)
      | (refine And.intro (by kernel_rfl) ?_; conv => whnf)
      | refine aIf_eqf ?_
      | refine aIf_not ?_
      | (refine aIf_dec (fun _ => ?_) (fun _ => ?_) <;> conv => whnf))
    all_goals (first | contradiction | exact retFs e1 e2 rfl rfl rfl rfl)
theorem sFactorShape_call {c d e : Nat} {zs o : List Int} {fs : List (List Int)} {i : Int} {env : List AV} {rows : List Row} {ctr low : Nat} {k : AV → St → Prop} (hpre : True) (h : k (.tup [.ref rows.length ctr 0 (fsL zs fs o i).length, .bool (decide (fsP zs fs o i))]) ⟨env, rows ++ [⟨ctr, 3, 1, (fsL zs fs o i).map (.int .i64)⟩], ctr + 1, low⟩) :
    CallB Try.prog 53 ⟨env, rows, ctr, low⟩ [.agg [.sl c zs.length (zs.map (.int .i64)), .sl d fs.length (fs.map (slI d)), .sl e o.length (o.map (.int .i64))], .int .i64 i] k := callLB_in sFactorShape_sound ((c, zs, d, fs, e, o), i) hpre h
theorem iFactorShape_call {c d e : Nat} {zs o : List Int} {fs : List (List Int)} {i : Int} {env : List AV} {rows : List Row} {ctr low : Nat} {k : AV → St → Prop} (hpre : True) (h : k (.tup [.ref rows.length ctr 0 (fsL zs fs o i).length, .bool (decide (fsP zs fs o i))]) ⟨env, rows ++ [⟨ctr, 3, 1, (fsL zs fs o i).map (.int .i64)⟩], ctr + 1, low⟩) :
    CallB Try.prog 54 ⟨env, rows, ctr, low⟩ [.agg [.sl c zs.length (zs.map (.int .i64)), .sl d fs.length (fs.map (slI d)), .sl e o.length (o.map (.int .i64))], .int .i64 i] k := callLB_in iFactorShape_sound ((c, zs, d, fs, e, o), i) hpre h
end Go.Proofs.Ytmgggbgejdkamaa

/- IndexAt. -/
namespace Go.Proofs.Ytmgggbgejdkamaa
set_option maxRecDepth 20000
open Go.RowKit Go.Am
attribute [local irreducible] aPlan aGet aIf aLoop aCall RetB NextB CallB CallG aCut aSet

def placeOk (xs ps : List Int) : Bool := shapeOk xs && (decide (ps.length = xs.length) && (List.range xs.length).all fun j => decide (0 ≤ ps.getD j 0 ∧ ps.getD j 0 < xs.getD j 0))
theorem placeOk_iff (xs ps : List Int) : placeOk xs ps = true ↔ shapeOk xs = true ∧ ps.length = xs.length ∧ ∀ j, j < xs.length → 0 ≤ ps.getD j 0 ∧ ps.getD j 0 < xs.getD j 0 := by
  unfold placeOk
  simp only [Bool.and_eq_true, decide_eq_true_iff, List.all_eq_true, List.mem_range]
theorem placeOk_f1 {xs ps : List Int} (h : shapeOk xs = false) : placeOk xs ps = false := by
  rw [← Bool.not_eq_true, placeOk_iff]; rintro ⟨h', -, -⟩; rw [h] at h'; cases h'
theorem placeOk_f2 {xs ps : List Int} (h : ps.length ≠ xs.length) : placeOk xs ps = false := by
  rw [← Bool.not_eq_true, placeOk_iff]; rintro ⟨-, h', -⟩; exact h h'
theorem placeOk_f3 {xs ps : List Int} {k : Nat} (hk : k < xs.length) (h : ¬ (0 ≤ ps.getD k 0 ∧ ps.getD k 0 < xs.getD k 0)) : placeOk xs ps = false := by
  rw [← Bool.not_eq_true, placeOk_iff]; rintro ⟨-, -, h'⟩; exact h (h' k hk)
theorem below_next {xs ps : List Int} {k : Nat} (h : ∀ j, j < k → 0 ≤ ps.getD j 0 ∧ ps.getD j 0 < xs.getD j 0) (h' : 0 ≤ ps.getD k 0 ∧ ps.getD k 0 < xs.getD k 0) : ∀ j, j < k + 1 → 0 ≤ ps.getD j 0 ∧ ps.getD j 0 < xs.getD j 0 := fun j hj => by
  rcases Nat.lt_succ_iff_lt_or_eq.1 hj with h1 | rfl
  · exact h j h1
  · exact h'

def sPlaceOk : CSpec := fnS (ι := Nat × List Int × Nat × List Int) (fun | (c, xs, d, ps) => [.sl c xs.length (xs.map (.int .i64)), .sl d ps.length (ps.map (.int .i64))]) (fun _ => True) (fun | (_, xs, _, ps) => .bool (placeOk xs ps))
set_option maxRecDepth 10000 in
theorem placeOk_sound : Sound Try.prog 115 sPlaceOk := by
  refine sound_of Try.func115 rfl (enters_of Try.func115 (by kernel_rfl) (by kernel_rfl)) ?_
  rintro ⟨c, xs, d, ps⟩ -
  conv => whnf
  repeat' (first
    | (refine aIf_t ?_; conv => whnf)
    | (refine aIf_f ?_; conv => whnf)
    | (refine fun (_ : _ ≤ maxLen) => ?_; conv => whnf)
    | (refine callG_t ?_; conv => whnf)
    | (refine append_same ?_; conv => whnf)
    | (refine And.intro (pureL_ints _ _) ?_; conv => whnf)
    | (refine iShapeOk_call ?_; conv => whnf)
    | refine aIf_eqf ?_
    | refine aIf_not ?_
    | (refine aIf_dec (fun _ => ?_) (fun _ => ?_) <;> conv => whnf)
    | (refine aIf_in (fun _ => ?_) (fun _ => ?_) <;> conv => whnf))
  · rename_i hs _ _ hl _
    have hl : ps.length = xs.length := by omega
    refine loop_in (ι := Nat) (fun k => ⟨[.sl c xs.length (xs.map (.int .i64)), .sl d ps.length (ps.map (.int .i64)), .un, .un, .bool false, .un, .un, .un, .un, .un, .un, .un, .un, .un, .un, .un, .un, .sl c xs.length (xs.map (.int .i64)), .int .i64 xs.length, .int .i64 k, .un, .un, .un, .un, .un, .un, .un, .un, .un, .un, .un, .un, .un, .un, .un, .un, .un, .un], [], 2, 0⟩)
      (fun k => k ≤ xs.length ∧ ∀ j, j < k → 0 ≤ ps.getD j 0 ∧ ps.getD j 0 < xs.getD j 0) (fun k => xs.length - k) 0 ⟨Nat.zero_le _, fun j hj => by omega⟩ ?_ ?_
    · repeat' (first
        | exact trivial
        | exact rfl
        | exact pureL_ints _ _
        | refine And.intro ?_ ?_
        | exact Nat.le_of_ble_eq_true rfl)
    · rintro k ⟨hk, hall⟩
      conv => whnf
      repeat' (first
        | (refine aIf_t ?_; conv => whnf)
        | (refine aIf_f ?_; conv => whnf)
        | (refine get_nat (by omega) ?_; conv => whnf)
        | (refine And.intro (by omega) ?_; conv => whnf)
        | (refine append_same ?_; conv => whnf)
        | refine aIf_eqf ?_
        | (refine aIf_dec (fun _ => ?_) (fun _ => ?_) <;> conv => whnf))
      · exact retS rfl (congrArg AV.bool (placeOk_f3 (k := k) (by omega) (by omega)).symm)
      · exact retS rfl (congrArg AV.bool (placeOk_f3 (k := k) (by omega) (by omega)).symm)
      · refine next_in (k + 1) (show xs.length - (k + 1) < xs.length - k by omega) ⟨by omega, below_next hall (by omega)⟩ ?_
        have hmax : maxLen = 9223372036854775807 := rfl
        repeat' (first
          | exact trivial
          | exact rfl
          | exact pureL_ints _ _
          | refine And.intro ?_ ?_
          | exact Nat.le_of_ble_eq_true rfl
          | exact int_eq (by rw [IntWalk.i64_in _ (by omega)] <;> omega))
      · exact retS rfl (congrArg AV.bool (by symm; rw [placeOk_iff]; exact ⟨hs, hl, fun j hj => hall j (by omega)⟩))
  · rename_i hl
    have hl : ps.length ≠ xs.length := by omega
    exact retS rfl (congrArg AV.bool (placeOk_f2 hl).symm)
  · rename_i h
    exact retS rfl (congrArg AV.bool (placeOk_f1 h).symm)
theorem placeOk_call {c d : Nat} {xs ps : List Int} {env : List AV} {rows : List Row} {ctr low : Nat} {k : AV → St → Prop} (h : k (.bool (placeOk xs ps)) ⟨env, rows, ctr + 1, low⟩) :
    CallB Try.prog 115 ⟨env, rows, ctr, low⟩ [.sl c xs.length (xs.map (.int .i64)), .sl d ps.length (ps.map (.int .i64))] k := callS_in placeOk_sound (c, xs, d, ps) trivial rfl h

/-- The count of cells ahead, as the machine reckons it. -/
def idxTo (xs ps : List Int) : Nat → Int
  | 0 => 0
  | k + 1 => IntKind.i64.wrap (IntKind.i64.wrap (idxTo xs ps k * xs.getD k 0) + ps.getD k 0)
def indexAt (xs ps : List Int) : Int := if placeOk xs ps = true then idxTo xs ps xs.length else -1

set_option maxRecDepth 10000 in
theorem l1Index_sound : Sound Try.prog 106 (fnS (ι := Nat × List Int × Nat × List Int) (fun | (c, xs, d, ps) => [.sl c xs.length (xs.map (.int .i64)), .sl d ps.length (ps.map (.int .i64))]) (fun | (_, xs, _, ps) => ps.length = xs.length) (fun | (_, xs, _, ps) => .int .i64 (idxTo xs ps xs.length))) := by
  refine sound_of Try.func106 rfl (enters_of Try.func106 (by kernel_rfl) (by kernel_rfl)) ?_
  rintro ⟨c, xs, d, ps⟩ hl
  have hl : ps.length = xs.length := hl
  conv => whnf
  repeat' (first
    | (refine plan_in (id := 5) [0, 1, 2, 3, 4, 5, 6, 7, 8, 9, 10, 11] (by kernel_rfl) (by kernel_rfl) ?_; conv => whnf)
    | (refine append_same ?_; conv => whnf))
  refine loop_in (ι := Nat) (fun k => ⟨[.sl c xs.length (xs.map (.int .i64)), .sl d ps.length (ps.map (.int .i64)), .un, .un, .un, .int .i64 (idxTo xs ps k), .int .i64 k, .un, .un, .un, .un, .un, .un, .un, .un, .un, .un, .un, .un, .un, .un, .un, .un, .un, .un], [], 1, 0⟩)
    (fun k => k ≤ xs.length) (fun k => xs.length - k) 0 (Nat.zero_le _) ?_ ?_
  · repeat' (first
      | exact trivial
      | exact rfl
      | exact pureL_ints _ _
      | refine And.intro ?_ ?_
      | exact Nat.le_of_ble_eq_true rfl)
  · intro k hk
    have hk : k ≤ xs.length := hk
    conv => whnf
    repeat' (first
      | (refine plan_in (id := 5) [0, 1, 2, 3, 4, 5, 6, 7, 8, 9, 10, 11] (by kernel_rfl) (by kernel_rfl) ?_; conv => whnf)
      | (refine fun (_ : _ ≤ maxLen) => ?_; conv => whnf)
      | (refine get_nat (by omega) ?_; conv => whnf)
      | (refine And.intro (by omega) ?_; conv => whnf)
      | (refine append_same ?_; conv => whnf)
      | (refine aIf_dec (fun _ => ?_) (fun _ => ?_) <;> conv => whnf))
    · refine next_in (k + 1) (show xs.length - (k + 1) < xs.length - k by omega) (by omega) ?_
      have hmax : maxLen = 9223372036854775807 := rfl
      repeat' (first
        | exact trivial
        | exact rfl
        | exact pureL_ints _ _
        | refine And.intro ?_ ?_
        | exact Nat.le_of_ble_eq_true rfl
        | exact int_eq (by rw [IntWalk.i64_in _ (by omega)] <;> omega))
    · have e : k = xs.length := by omega
      subst e
      exact retS rfl rfl
theorem l1Index_call {c d : Nat} {xs ps : List Int} {env : List AV} {rows : List Row} {ctr low : Nat} {k : AV → St → Prop} (hl : ps.length = xs.length) (h : k (.int .i64 (idxTo xs ps xs.length)) ⟨env, rows, ctr + 1, low⟩) :
    CallB Try.prog 106 ⟨env, rows, ctr, low⟩ [.sl c xs.length (xs.map (.int .i64)), .sl d ps.length (ps.map (.int .i64))] k := callS_in l1Index_sound (c, xs, d, ps) hl rfl h

def sIndexAt : CSpec := fnS (ι := Nat × List Int × Nat × List Int) (fun | (c, xs, d, ps) => [.sl c xs.length (xs.map (.int .i64)), .sl d ps.length (ps.map (.int .i64))]) (fun _ => True) (fun | (_, xs, _, ps) => .int .i64 (indexAt xs ps))
set_option maxRecDepth 10000 in
theorem iIndexAt_sound : Sound Try.prog 111 sIndexAt := by
  refine sound_of Try.func111 rfl (enters_of Try.func111 (by kernel_rfl) (by kernel_rfl)) ?_
  rintro ⟨c, xs, d, ps⟩ -
  conv => whnf
  repeat' (first
    | (refine fun (_ : _ ≤ maxLen) => ?_; conv => whnf)
    | (refine callG_t ?_; conv => whnf)
    | (refine append_same ?_; conv => whnf)
    | (refine And.intro (pureL_ints _ _) ?_; conv => whnf)
    | (refine placeOk_call ?_; conv => whnf)
    | refine aIf_not ?_
    | (refine aIf_in (fun _ => ?_) (fun _ => ?_) <;> conv => whnf))
  · rename_i h _
    have hl := ((placeOk_iff xs ps).1 h).2.1
    refine loop_in (ι := Nat) (fun k => ⟨[.sl c xs.length (xs.map (.int .i64)), .sl d ps.length (ps.map (.int .i64)), .un, .un, .un, .int .i64 (idxTo xs ps k), .un, .un, .un, .un, .un, .un, .sl c xs.length (xs.map (.int .i64)), .int .i64 xs.length, .int .i64 k, .un, .un, .un, .un, .un, .un, .un, .un, .un, .un, .un, .un, .un, .un], [], 2, 0⟩)
      (fun k => k ≤ xs.length) (fun k => xs.length - k) 0 (Nat.zero_le _) ?_ ?_
    · repeat' (first
        | exact trivial
        | exact rfl
        | exact pureL_ints _ _
        | refine And.intro ?_ ?_
        | exact Nat.le_of_ble_eq_true rfl)
    · intro k hk
      have hk : k ≤ xs.length := hk
      conv => whnf
      repeat' (first
        | (refine get_nat (by omega) ?_; conv => whnf)
        | (refine And.intro (by omega) ?_; conv => whnf)
        | (refine append_same ?_; conv => whnf)
        | (refine aIf_dec (fun _ => ?_) (fun _ => ?_) <;> conv => whnf))
      · refine next_in (k + 1) (show xs.length - (k + 1) < xs.length - k by omega) (by omega) ?_
        have hmax : maxLen = 9223372036854775807 := rfl
        repeat' (first
          | exact trivial
          | exact rfl
          | exact pureL_ints _ _
          | refine And.intro ?_ ?_
          | exact Nat.le_of_ble_eq_true rfl
          | exact int_eq (by rw [IntWalk.i64_in _ (by omega)] <;> omega))
      · have e : k = xs.length := by omega
        subst e
        exact retS rfl (int_eq (by rw [indexAt, if_pos h]))
  · rename_i h
    exact retS rfl (int_eq (by rw [indexAt, if_neg (by rw [h]; decide)]))
theorem iIndexAt_call {c d : Nat} {xs ps : List Int} {env : List AV} {rows : List Row} {ctr low : Nat} {k : AV → St → Prop} (h : k (.int .i64 (indexAt xs ps)) ⟨env, rows, ctr + 1, low⟩) :
    CallB Try.prog 111 ⟨env, rows, ctr, low⟩ [.sl c xs.length (xs.map (.int .i64)), .sl d ps.length (ps.map (.int .i64))] k := callS_in iIndexAt_sound (c, xs, d, ps) trivial rfl h

end Go.Proofs.Ytmgggbgejdkamaa

/- PlaceAt. -/
namespace Go.Proofs.Ytmgggbgejdkamaa
set_option maxRecDepth 20000
open Go.RowKit Go.Am
attribute [local irreducible] aPlan aGet aIf aLoop aCall RetB NextB CallB CallG aCut aSet aAppend

theorem cnt_bound {xs : List Int} (h : shapeOk xs = true) : ∀ k, k ≤ xs.length → 1 ≤ cntTo xs k ∧ cntTo xs k ≤ 4 ^ k
  | 0, _ => ⟨Int.le_refl _, Int.le_refl _⟩
  | k + 1, hk => by
    obtain ⟨h1, h2⟩ := cnt_bound h k (by omega)
    obtain ⟨h3, h4⟩ := (shapeOk_iff xs).1 h
    obtain ⟨h5, h6⟩ := (okSize_iff _).1 (h4 k (by omega))
    have hp : (4 : Int) ^ k ≤ 16 := by
      have : k ≤ 2 := by omega
      rcases k with _ | _ | _ | k
      · decide
      · decide
      · decide
      · omega
    have a1 : 1 * 1 ≤ cntTo xs k * xs.getD k 0 := Int.mul_le_mul h1 h5 (by decide) (by omega)
    have a2 : cntTo xs k * xs.getD k 0 ≤ 4 ^ k * 4 := Int.mul_le_mul h2 h6 (by omega) (by omega)
    have a3 : cntTo xs (k + 1) = cntTo xs k * xs.getD k 0 := by
      show IntKind.i64.wrap _ = _
      exact IntWalk.i64_in _ (by omega)
    rw [a3, Int.pow_succ]
    exact ⟨by omega, a2⟩

/-- The quotients from the last axis on. -/
def quoT (zs : List Int) (i : Int) : Nat → Int
  | 0 => i
  | m + 1 => IntKind.i64.wrap ((quoT zs i m).tdiv (zs.getD (zs.length - 1 - m) 0))
theorem quoT_next {zs : List Int} {i : Int} {q : Nat} (h : q + 1 ≤ zs.length) : quoT zs i (zs.length - q) = IntKind.i64.wrap ((quoT zs i (zs.length - (q + 1))).tdiv (zs.getD q 0)) := by
  have e : zs.length - q = (zs.length - (q + 1)) + 1 := by omega
  rw [e, quoT]
  congr 3; omega
def places (zs : List Int) (i : Int) : List Int := (List.range zs.length).map fun j => (quoT zs i (zs.length - 1 - j)).tmod (zs.getD j 0)
theorem places_length (zs : List Int) (i : Int) : (places zs i).length = zs.length := by simp [places]
theorem places_getD {zs : List Int} {i : Int} {j : Nat} (h : j < zs.length) : (places zs i).getD j 0 = (quoT zs i (zs.length - 1 - j)).tmod (zs.getD j 0) := by
  simp [places, List.getD, List.getElem?_map, List.getElem?_range h]
def plInv (zs : List Int) (i : Int) (x : Nat × List Int) : Prop := x.1 ≤ zs.length ∧ x.2.length = zs.length ∧ ∀ j, x.1 ≤ j → j < zs.length → x.2.getD j 0 = (quoT zs i (zs.length - 1 - j)).tmod (zs.getD j 0)
theorem plInv_0 (zs : List Int) (i : Int) : plInv zs i (zs.length, List.replicate zs.length 0) := ⟨Nat.le_refl _, by simp, fun j h1 h2 => by omega⟩
theorem plInv_next {zs : List Int} {i : Int} {q : Nat} {ws : List Int} (h : plInv zs i (q + 1, ws)) : plInv zs i (q, ws.set q ((quoT zs i (zs.length - (q + 1))).tmod (zs.getD q 0))) := by
  obtain ⟨h1, h2, h3⟩ := h
  have h1 : q + 1 ≤ zs.length := h1
  have h2 : ws.length = zs.length := h2
  have h3 : ∀ j, q + 1 ≤ j → j < zs.length → ws.getD j 0 = (quoT zs i (zs.length - 1 - j)).tmod (zs.getD j 0) := h3
  refine ⟨(show q ≤ zs.length by omega), by simpa using h2, fun j hj hl => ?_⟩
  show (ws.set q ((quoT zs i (zs.length - (q + 1))).tmod (zs.getD q 0))).getD j 0 = _
  rw [getD_set (by omega)]
  split
  · rename_i e; subst e
    congr 2; omega
  · have hj : q ≤ j := hj
    exact h3 j (by omega) hl
theorem plInv_end {zs ws : List Int} {i : Int} (h : plInv zs i (0, ws)) : ws = places zs i := getD_ext (by rw [places_length]; exact h.2.1) fun j hj => by
  rw [places_length] at hj
  rw [places_getD hj]; exact h.2.2 j (Nat.zero_le _) hj

set_option maxRecDepth 10000 in
theorem l1Place_sound : Sound Try.prog 105 (fnL (ι := Nat × List Int × Int) 3 (fun | (c, zs, i) => [.sl c zs.length (zs.map (.int .i64)), .int .i64 i]) (fun | (_, zs, _) => shapeOk zs = true) (fun | (_, zs, i) => places zs i)) := by
  refine sound_of Try.func105 rfl (enters_of Try.func105 (by kernel_rfl) (by kernel_rfl)) ?_
  rintro ⟨c, zs, i⟩ hpre
  have h3 := (shapeOk_iff zs).1 hpre
  conv => whnf
  repeat' (first
    | (refine fun (_ : _ ≤ maxLen) => ?_; conv => whnf)
    | (refine And.intro (And.intro (Int.le_refl _) (And.intro (by kernel_rfl) (And.intro rfl (by kernel_rfl)))) (And.intro (And.intro (by omega) (And.intro (bytes_le (b := 8) rfl (by omega)) (by omega))) ?_); conv => whnf)
    | (refine append_same ?_; conv => whnf))
  refine loop_in (ι := Nat × List Int) (fun | (q, ws) => ⟨[.sl c zs.length (zs.map (.int .i64)), .int .i64 (quoT zs i (zs.length - q)), .un, .un, .un, .ref 1 2 0 zs.length, .int .i64 (q - 1), .un, .un, .un, .un, .un, .un, .un, .un, .un, .un, .un, .un, .un, .un, .un, .un, .un, .un, .un, .un, .un, .un, .un, .un, .un, .un], [⟨1, 3, 1, []⟩, ⟨2, 3, 1, ws.map (.int .i64)⟩], 3, 0⟩)
    (plInv zs i) (fun x => x.1) (zs.length, List.replicate zs.length 0) (plInv_0 zs i) ?_ ?_
  · have e0 : i = quoT zs i (zs.length - zs.length) := by rw [Nat.sub_self]; rfl
    repeat' (first
      | exact trivial
      | exact rfl
      | exact pureL_ints _ _
      | exact Or.inl (And.intro rfl rfl)
      | exact le_ints (rep_ints _ _)
      | refine And.intro ?_ ?_
      | exact Nat.le_of_ble_eq_true rfl
      | exact int_eq (by assumption)
      | exact int_eq (by rw [IntWalk.i64_in _ (by omega)] <;> omega))
  · rintro ⟨q, ws⟩ hi
    have hq : q ≤ zs.length := hi.1
    have hl : ws.length = zs.length := hi.2.1
    by_cases h0 : q = 0
    · subst h0
      conv => whnf
      repeat' (first
        | (refine aIf_f ?_; conv => whnf)
        | (refine append_same ?_; conv => whnf))
      all_goals (first
        | exact (by have e := plInv_end hi; subst e; exact retL rfl rfl rfl (places_length zs i).symm)
        | (exfalso; omega))
    · obtain ⟨q, rfl⟩ : ∃ q', q = q' + 1 := ⟨q - 1, by omega⟩
      have e1 : (((q + 1 : Nat) : Int) - 1).toNat = q := by omega
      have hz := (okSize_iff _).1 (h3.2 q (by omega))
      have hz' : 1 ≤ zs.getD (((q + 1 : Nat) : Int) - 1).toNat 0 ∧ zs.getD (((q + 1 : Nat) : Int) - 1).toNat 0 ≤ 4 := by rw [e1]; exact hz
      have e2 := quoT_next (zs := zs) (i := i) hq
      conv => whnf
      repeat' (first
        | (refine get_int (by omega) ?_; conv => whnf)
        | (refine And.intro (by omega) ?_; conv => whnf)
        | (refine append_same ?_; conv => whnf)
        | (refine And.intro rfl (And.intro rfl (And.intro (by first | omega | (rw [List.length_map]; omega)) ?_)); conv => whnf)
        | (refine set_int ?_ (by omega); conv => whnf)
        | (refine aIf_dec (fun _ => ?_) (fun _ => ?_) <;> conv => whnf))
      · rw [e1]
        refine next_in (q, ws.set q ((quoT zs i (zs.length - (q + 1))).tmod (zs.getD q 0))) (Nat.lt_succ_self _) (plInv_next hi) ?_
        rw [← e2]
        repeat' (first
          | exact trivial
          | exact rfl
          | exact pureL_ints _ _
          | exact Or.inl (And.intro rfl rfl)
          | exact le_ints rfl
          | refine And.intro ?_ ?_
          | exact Nat.le_of_ble_eq_true rfl
          | exact int_eq (by rw [IntWalk.i64_in _ (by omega)] <;> omega))
      all_goals (exfalso; omega)

theorem l1Place_call {c : Nat} {zs : List Int} {i : Int} {env : List AV} {rows : List Row} {ctr low : Nat} {k : AV → St → Prop} (hpre : shapeOk zs = true) (hk : k (.ref rows.length ctr 0 (places zs i).length) ⟨env, rows ++ [⟨ctr, 3, 1, (places zs i).map (.int .i64)⟩], ctr + 1, low⟩) :
    CallB Try.prog 105 ⟨env, rows, ctr, low⟩ [.sl c zs.length (zs.map (.int .i64)), .int .i64 i] k := callL_in l1Place_sound (c, zs, i) hpre hk

/-- PlaceAt: a shape, and an index of it. -/
def paOk (zs : List Int) (i : Int) : Bool := shapeOk zs && decide (0 ≤ i ∧ i < cntTo zs zs.length)
def paL (zs : List Int) (i : Int) : List Int := if paOk zs i = true then places zs i else []
theorem pa_t {zs : List Int} {i : Int} (h : shapeOk zs = true) (h' : 0 ≤ i ∧ i < cntTo zs zs.length) : paL zs i = places zs i ∧ true = paOk zs i := by
  have e : paOk zs i = true := by unfold paOk; rw [h]; simpa using h'
  exact ⟨if_pos e, e.symm⟩
theorem pa_f {zs : List Int} {i : Int} (h : ¬ (shapeOk zs = true ∧ 0 ≤ i ∧ i < cntTo zs zs.length)) : paL zs i = [] ∧ false = paOk zs i := by
  have e : paOk zs i = false := by
    rw [← Bool.not_eq_true]; intro h'; apply h
    unfold paOk at h'; simpa [Bool.and_eq_true] using h'
  exact ⟨if_neg (by rw [e]; decide), e.symm⟩
theorem pa_le (zs : List Int) (i : Int) : (paL zs i).length ≤ zs.length := by
  unfold paL; split
  · exact Nat.le_of_eq (places_length _ _)
  · exact Nat.zero_le _
def sPlaceAt : CSpec := fnLB (ι := Nat × List Int × Int) 3 (fun | (c, zs, i) => [.sl c zs.length (zs.map (.int .i64)), .int .i64 i]) (fun | (_, zs, _) => zs.length ≤ 1048576) (fun | (_, zs, i) => paL zs i) (fun | (_, zs, i) => paOk zs i)
theorem pa_end {env : List AV} {rows : List Row} {ctr τ ver : Nat} {zs zs' : List Int} {i : Int} {b : Bool} {r : Row} {n : Nat} (e1 : paL zs i = zs' ∧ b = paOk zs i) (hr : rows[τ]? = some r) (hv : r.ver = ver) (e : r = ⟨ver, 3, 1, zs'.map (.int .i64)⟩) (hn : n = zs'.length) :
    RetB ⟨env, rows, ctr, 0⟩ [] (fun r ic news => r = .tup [.ref 0 0 0 (paL zs i).length, .bool (paOk zs i)] ∧ ic = [] ∧ news = [⟨0, 3, 1, (paL zs i).map (.int .i64)⟩]) (.tup [.ref τ ver 0 n, .bool b]) := by
  rw [e1.1]; exact retLB hr hv e hn e1.2

theorem countersAt_sound : Sound Try.prog 110 (fnL (ι := Nat × List Int × Int) 3 (fun | (c, zs, i) => [.sl c zs.length (zs.map (.int .i64)), .int .i64 i]) (fun | (_, zs, _) => zs.length ≤ 1048576 ∧ ∀ j, j < zs.length → 1 ≤ zs.getD j 0 ∧ zs.getD j 0 ≤ 4) (fun | (_, zs, i) => places zs i)) := by
  refine sound_of Try.func110 rfl (enters_of Try.func110 (by kernel_rfl) (by kernel_rfl)) ?_
  rintro ⟨c, zs, i⟩ hpre
  obtain ⟨hpl, hin⟩ : zs.length ≤ 1048576 ∧ ∀ j, j < zs.length → 1 ≤ zs.getD j 0 ∧ zs.getD j 0 ≤ 4 := hpre
  have hmax : maxLen = 9223372036854775807 := rfl
  conv => whnf
  repeat' (first
    | (refine fun (_ : _ ≤ maxLen) => ?_; conv => whnf)
    | (refine And.intro (And.intro (Int.le_refl _) (And.intro (by kernel_rfl) (And.intro rfl (by kernel_rfl)))) (And.intro (And.intro (by omega) (And.intro (bytes_le (b := 8) rfl (by omega)) (by omega))) ?_); conv => whnf)
    | (refine append_same ?_; conv => whnf))
  refine loop_u (ι := Nat × List Int) [true, true, false, false, false, true, true, false, false, false, false, false, false, false, false, false, false, false, false, false, false, false, false, false, false, false, false, false, false, false, false, false, false] (fun | (q, _) => [(1, .int .i64 (quoT zs i (zs.length - q))), (6, .int .i64 (q - 1))]) (fun | (_, ws) => [(1, ws.map (.int .i64))]) (plInv zs i) (fun x => x.1) ((zs.length, List.replicate zs.length 0)) (plInv_0 zs i) ?_ ?_
  · have e0 : i = quoT zs i (zs.length - zs.length) := by rw [Nat.sub_self]; rfl
    conv => whnf
    repeat' (first
      | exact trivial
      | exact rfl
      | exact pureL_ints _ _
      | exact Or.inl (And.intro rfl rfl)
      | exact le_ints (rep_ints _ _)
      | refine And.intro ?_ ?_
      | exact Nat.le_of_ble_eq_true rfl
      | exact int_eq (by assumption)
      | exact int_eq (by rw [IntWalk.i64_in _ (by omega)] <;> omega))
  · rintro ⟨q, ws⟩ hi
    have hq : q ≤ zs.length := hi.1
    have hl : ws.length = zs.length := hi.2.1
    by_cases h0 : q = 0
    · subst h0
      conv => whnf
      repeat' (first
        | (refine aIf_f ?_; conv => whnf)
        | (refine append_same ?_; conv => whnf))
      all_goals (first
        | exact (by have e := plInv_end hi; subst e; exact retL rfl rfl rfl (places_length zs i).symm)
        | (exfalso; omega))
    · obtain ⟨q, rfl⟩ : ∃ q', q = q' + 1 := ⟨q - 1, by omega⟩
      have e1 : (((q + 1 : Nat) : Int) - 1).toNat = q := by omega
      have hz := hin q (by omega)
      have hz' : 1 ≤ zs.getD (((q + 1 : Nat) : Int) - 1).toNat 0 ∧ zs.getD (((q + 1 : Nat) : Int) - 1).toNat 0 ≤ 4 := by rw [e1]; exact hz
      have e2 := quoT_next (zs := zs) (i := i) hq
      conv => whnf
      repeat' (first
        | (refine get_int (by omega) ?_; conv => whnf)
        | (refine And.intro (by omega) ?_; conv => whnf)
        | (refine append_same ?_; conv => whnf)
        | (refine And.intro rfl (And.intro rfl (And.intro (by first | omega | (rw [List.length_map]; omega)) ?_)); conv => whnf)
        | (refine set_int ?_ (by omega); conv => whnf)
        | (refine aIf_dec (fun _ => ?_) (fun _ => ?_) <;> conv => whnf))
      · rw [e1]
        refine next_u (q, ws.set q ((quoT zs i (zs.length - (q + 1))).tmod (zs.getD q 0))) (Nat.lt_succ_self _) (plInv_next hi) ?_
        rw [← e2]
        conv => whnf
        repeat' (first
          | exact trivial
          | exact rfl
          | exact pureL_ints _ _
          | exact Or.inl (And.intro rfl rfl)
          | exact le_ints rfl
          | refine And.intro ?_ ?_
          | exact Nat.le_of_ble_eq_true rfl
          | exact int_eq (by rw [IntWalk.i64_in _ (by omega)] <;> omega))
      all_goals (exfalso; omega)
theorem countersAt_call {c : Nat} {zs : List Int} {i : Int} {env : List AV} {rows : List Row} {ctr low : Nat} {k : AV → St → Prop} (hpre : zs.length ≤ 1048576 ∧ ∀ j, j < zs.length → 1 ≤ zs.getD j 0 ∧ zs.getD j 0 ≤ 4) (h : k (.ref rows.length ctr 0 (places zs i).length) ⟨env, rows ++ [⟨ctr, 3, 1, (places zs i).map (.int .i64)⟩], ctr + 1, low⟩) :
    CallB Try.prog 110 ⟨env, rows, ctr, low⟩ [.sl c zs.length (zs.map (.int .i64)), .int .i64 i] k := callL_in countersAt_sound (c, zs, i) hpre h
end Go.Proofs.Ytmgggbgejdkamaa

/- JoinShapes. -/
namespace Go.Proofs.Ytmgggbgejdkamaa
set_option maxRecDepth 20000
open Go.RowKit Go.Am
attribute [local irreducible] aPlan aGet aIf aLoop aCall RetB NextB CallB CallG aCut aSet aAppend

/-- The axis that is so many from the end; 1 ahead of all. -/
def bx (zs : List Int) (b : Int) : Int := if (zs.length : Int) < b then 1 else zs.getD ((zs.length : Int) - b).toNat 0
def jn (xs ys : List Int) (b : Int) : Int := if bx xs b < bx ys b then bx ys b else bx xs b
def bad (xs ys : List Int) (b : Int) : Prop := bx xs b ≠ bx ys b ∧ bx xs b ≠ 1 ∧ bx ys b ≠ 1
instance (xs ys : List Int) (b : Int) : Decidable (bad xs ys b) := by unfold bad; infer_instance
def jN (xs ys : List Int) : Nat := max xs.length ys.length
def joined (xs ys : List Int) : List Int := (List.range (jN xs ys)).map fun (j : Nat) => jn xs ys ((jN xs ys : Int) - (j : Int))
theorem joined_length (xs ys : List Int) : (joined xs ys).length = jN xs ys := by simp [joined]
theorem joined_getD {xs ys : List Int} {j : Nat} (h : j < jN xs ys) : (joined xs ys).getD j 0 = jn xs ys ((jN xs ys : Int) - (j : Int)) := by
  simp [joined, List.getD, List.getElem?_map, List.getElem?_range h]
def jOk (xs ys : List Int) : Bool := shapeOk xs && (shapeOk ys && (List.range (jN xs ys)).all fun j => decide (¬ bad xs ys ((jN xs ys : Int) - (j : Int))))
theorem jOk_iff (xs ys : List Int) : jOk xs ys = true ↔ shapeOk xs = true ∧ shapeOk ys = true ∧ ∀ j, j < jN xs ys → ¬ bad xs ys ((jN xs ys : Int) - (j : Int)) := by
  unfold jOk
  simp only [Bool.and_eq_true, decide_eq_true_iff, List.all_eq_true, List.mem_range]
def jL (xs ys : List Int) : List Int := if jOk xs ys = true then joined xs ys else []
theorem j_t {xs ys : List Int} (h : shapeOk xs = true) (h' : shapeOk ys = true) (hb : ∀ j, j < jN xs ys → ¬ bad xs ys ((jN xs ys : Int) - (j : Int))) : jL xs ys = joined xs ys ∧ true = jOk xs ys := by
  have e := (jOk_iff xs ys).2 ⟨h, h', hb⟩
  exact ⟨if_pos e, e.symm⟩
theorem j_f {xs ys : List Int} (h : ¬ (shapeOk xs = true ∧ shapeOk ys = true ∧ ∀ j, j < jN xs ys → ¬ bad xs ys ((jN xs ys : Int) - (j : Int)))) : jL xs ys = [] ∧ false = jOk xs ys := by
  have e : jOk xs ys = false := by rw [← Bool.not_eq_true]; intro h'; exact h ((jOk_iff xs ys).1 h')
  exact ⟨if_neg (by rw [e]; decide), e.symm⟩
theorem jL_le (xs ys : List Int) : (jL xs ys).length ≤ xs.length + ys.length := by
  unfold jL; split
  · rw [joined_length]; unfold jN; omega
  · exact Nat.zero_le _
def sJoin : CSpec := fnLB (ι := Nat × List Int × Nat × List Int) 3 (fun | (c, xs, d, ys) => [.sl c xs.length (xs.map (.int .i64)), .sl d ys.length (ys.map (.int .i64))]) (fun _ => True) (fun | (_, xs, _, ys) => jL xs ys) (fun | (_, xs, _, ys) => jOk xs ys)
theorem j_end {env : List AV} {rows : List Row} {ctr τ ver : Nat} {xs ys zs' : List Int} {b : Bool} {r : Row} {n : Nat} (e1 : jL xs ys = zs' ∧ b = jOk xs ys) (hr : rows[τ]? = some r) (hv : r.ver = ver) (e : r = ⟨ver, 3, 1, zs'.map (.int .i64)⟩) (hn : n = zs'.length) :
    RetB ⟨env, rows, ctr, 0⟩ [] (fun r ic news => r = .tup [.ref 0 0 0 (jL xs ys).length, .bool (jOk xs ys)] ∧ ic = [] ∧ news = [⟨0, 3, 1, (jL xs ys).map (.int .i64)⟩]) (.tup [.ref τ ver 0 n, .bool b]) := by
  rw [e1.1]; exact retLB hr hv e hn e1.2

end Go.Proofs.Ytmgggbgejdkamaa

/- JoinShapes of the spec. -/
namespace Go.Proofs.Ytmgggbgejdkamaa
set_option maxRecDepth 20000
open Go.RowKit Go.Am
attribute [local irreducible] aPlan aGet aIf aLoop aCall RetB NextB CallB CallG aCut aSet aAppend

theorem jL_le6 (xs ys : List Int) : (jL xs ys).length ≤ 6 := by
  by_cases h : jOk xs ys = true
  · have h' := (jOk_iff xs ys).1 h
    have h1 := ((shapeOk_iff xs).1 h'.1).1
    have h2 := ((shapeOk_iff ys).1 h'.2.1).1
    have := jL_le xs ys
    omega
  · unfold jL; rw [if_neg h]; exact Nat.zero_le _
end Go.Proofs.Ytmgggbgejdkamaa
