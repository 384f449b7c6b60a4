import Derived.Test.YtjmdhfjemaoebaaGreatM0x29
import Derived.Test.YtjmdhfjemaoebaaGreatM0x17
import Derived.Test.YtjmdhfjemaoebaaGreatM0x19
import Derived.Test.YtjmdhfjemaoebaaGreatM0x14
import Derived.Test.YtjmdhfjemaoebaaGreatM0x22
import Derived.Test.YtjmdhfjemaoebaaGreatM0x11
import Derived.Handed
import Derived.JoinedOf
import Derived.Test.YtjmdhfjemaoebaaGreatRows
import Derived.Test.YtjmdhfjemaoebaaGreatM0x12
namespace Go.Proofs.YtjmdhfjemaoebaaGreat
set_option maxRecDepth 20000
open Go.RowKit Go.Am
set_option linter.unusedSimpArgs false
attribute [local irreducible] aPlan aGet aIf aLoop aCall RetB NextB CallB CallG aCut aSet aAppend
def cshP (a l : List Int) : Prop := (0 ≤ l.getD (Int.toNat 0) 0 ∧ l.getD (Int.toNat 0) 0 < a.length) ∧ (1 ≤ l.getD (Int.toNat 2) 0 ∧ l.getD (Int.toNat 2) 0 ≤ 4) ∧ 0 ≤ l.getD (Int.toNat 1) 0 ∧ l.getD (Int.toNat 1) 0 ≤ a.getD (l.getD (Int.toNat 0) 0).toNat 0 - l.getD (Int.toNat 2) 0
instance (a l : List Int) : Decidable (cshP a l) := by unfold cshP; infer_instance
def cshL (a l : List Int) : List Int := if cshP a l then a.set (l.getD (Int.toNat 0) 0).toNat (l.getD (Int.toNat 2) 0) else []
set_option maxHeartbeats 4000000 in
theorem l3CutShape_sound : Sound Tryz.prog 146 (fnLB (ι := Nat × List Int × Nat × List Int) 3 (fun | (c, a, d, l) => [.sl c a.length (a.map (.int .i64)), .sl d l.length (l.map (.int .i64))]) (fun | (_, a, _, l) => shapeOk a = true ∧ l.length = 3) (fun | (_, a, _, l) => cshL a l) (fun | (_, a, _, l) => decide (cshP a l))) := by
  refine sound_of Tryz.func146 rfl (enters_of Tryz.func146 (by kernel_rfl) (by kernel_rfl)) ?_
  rintro ⟨c, a, d, l⟩ hpre
  have hpre : shapeOk a = true ∧ l.length = 3 := hpre
  obtain ⟨hs, hl⟩ := hpre
  have h3 := ((shapeOk_iff _).1 hs).1
  have hmax : maxLen = 9223372036854775807 := rfl
  have w1 : IntKind.i64.wrap ((a.length : Int) - 1) = a.length - 1 := IntWalk.i64_in _ (by omega)
  have t0 : Int.toNat 0 = 0 := rfl
  have t1 : Int.toNat 1 = 1 := rfl
  have t2 : Int.toNat 2 = 2 := rfl
  by_cases h0 : 0 ≤ l.getD (Int.toNat 0) 0 ∧ l.getD (Int.toNat 0) 0 < a.length
  · have hsz := size_in hs (show (l.getD (Int.toNat 0) 0).toNat < a.length by omega)
    by_cases h2 : 1 ≤ l.getD (Int.toNat 2) 0 ∧ l.getD (Int.toNat 2) 0 ≤ 4
    · have w2 : IntKind.i64.wrap (a.getD (l.getD (Int.toNat 0) 0).toNat 0 - l.getD (Int.toNat 2) 0) = a.getD (l.getD (Int.toNat 0) 0).toNat 0 - l.getD (Int.toNat 2) 0 := IntWalk.i64_in _ (by omega)
      by_cases hP : cshP a l
      · have h := hP.2.2
        have hL : cshL a l = a.set (l.getD (Int.toNat 0) 0).toNat (l.getD (Int.toNat 2) 0) := if_pos hP
        conv => whnf
        repeat' (first
          | ((first | refine plan_in (id := 1) [0, 1, 2, 3, 4, 5, 6, 7, 8, 9, 10, 11, 12, 13, 14, 15, 16, 17, 18, 19, 20, 21, 22, 23, 24, 25, 26, 27, 28, 29, 30, 31] (by kernel_rfl) (by kernel_rfl) ?_ | refine plan_in (id := 4) [0, 1, 2, 3, 4, 5, 6, 7, 8] (by kernel_rfl) (by kernel_rfl) ?_ | refine aIf_t ?_ | refine aIf_f ?_ | refine fun (_ : _ ≤ maxLen) => ?_ | refine get_int (by omega) ?_ | refine And.intro (by omega) ?_ | refine callG_t ?_ | refine l2Nums_call (by omega) ?_ | refine append_same ?_ | refine And.intro (pureL_ints _ _) ?_ | refine in_call ?_ | refine And.intro rfl (And.intro rfl (And.intro (by first | omega | (rw [List.length_map]; omega)) ?_)) | refine set_int ?_ (by omega)); conv => whnf) | refine aIf_eqf ?_
          | refine aIf_not ?_ | (refine aIf_dec (fun _ => ?_) (fun _ => ?_) <;> conv => whnf))
        all_goals (first | (exfalso; omega) | skip)
        exact retLBM hL (decide_eq_true hP) rfl (by simp)
      · have h : ¬ (0 ≤ l.getD (Int.toNat 1) 0 ∧ l.getD (Int.toNat 1) 0 ≤ a.getD (l.getD (Int.toNat 0) 0).toNat 0 - l.getD (Int.toNat 2) 0) := fun h => hP ⟨h0, h2, h⟩
        conv => whnf
        repeat' (first
          | ((first | refine plan_in (id := 1) [0, 1, 2, 3, 4, 5, 6, 7, 8, 9, 10, 11, 12, 13, 14, 15, 16, 17, 18, 19, 20, 21, 22, 23, 24, 25, 26, 27, 28, 29, 30, 31] (by kernel_rfl) (by kernel_rfl) ?_ | refine plan_in (id := 4) [0, 1, 2, 3, 4, 5, 6, 7, 8] (by kernel_rfl) (by kernel_rfl) ?_ | refine aIf_t ?_ | refine aIf_f ?_ | refine fun (_ : _ ≤ maxLen) => ?_ | refine get_nat (by omega) ?_ | refine get_int (by omega) ?_ | refine And.intro (by omega) ?_ | refine callG_t ?_ | refine l2Nums_call (by omega) ?_ | refine append_same ?_ | refine in_call ?_ | refine set_nat ?_ (by omega)); conv => whnf) | refine aIf_eqf ?_
          | refine aIf_not ?_ | (refine aIf_dec (fun _ => ?_) (fun _ => ?_) <;> conv => whnf))
        all_goals (first | (exfalso; omega) | skip)
        exact retLBM (if_neg hP) (decide_eq_false hP) rfl rfl
    · have hP : ¬ cshP a l := fun h => h2 h.2.1
      conv => whnf
      repeat' (first
        | ((first | refine plan_in (id := 1) [0, 1, 2, 3, 4, 5, 6, 7, 8, 9, 10, 11, 12, 13, 14, 15, 16, 17, 18, 19, 20, 21, 22, 23, 24, 25, 26, 27, 28, 29, 30, 31] (by kernel_rfl) (by kernel_rfl) ?_ | refine plan_in (id := 4) [0, 1, 2, 3, 4, 5, 6, 7, 8] (by kernel_rfl) (by kernel_rfl) ?_ | refine aIf_t ?_ | refine aIf_f ?_ | refine fun (_ : _ ≤ maxLen) => ?_ | refine get_nat (by omega) ?_ | refine get_int (by omega) ?_ | refine And.intro (by omega) ?_ | refine callG_t ?_ | refine l2Nums_call (by omega) ?_ | refine append_same ?_ | refine in_call ?_ | refine set_nat ?_ (by omega)); conv => whnf) | refine aIf_eqf ?_
        | refine aIf_not ?_ | (refine aIf_dec (fun _ => ?_) (fun _ => ?_) <;> conv => whnf))
      all_goals (first | (exfalso; omega) | skip)
      exact retLBM (if_neg hP) (decide_eq_false hP) rfl rfl
  · have hP : ¬ cshP a l := fun h => h0 h.1
    conv => whnf
    repeat' (first
      | ((first | refine plan_in (id := 1) [0, 1, 2, 3, 4, 5, 6, 7, 8, 9, 10, 11, 12, 13, 14, 15, 16, 17, 18, 19, 20, 21, 22, 23, 24, 25, 26, 27, 28, 29, 30, 31] (by kernel_rfl) (by kernel_rfl) ?_ | refine plan_in (id := 4) [0, 1, 2, 3, 4, 5, 6, 7, 8] (by kernel_rfl) (by kernel_rfl) ?_ | refine aIf_t ?_ | refine aIf_f ?_ | refine fun (_ : _ ≤ maxLen) => ?_ | refine get_nat (by omega) ?_ | refine get_int (by omega) ?_ | refine And.intro (by omega) ?_ | refine callG_t ?_ | refine l2Nums_call (by omega) ?_ | refine append_same ?_ | refine in_call ?_ | refine set_nat ?_ (by omega)); conv => whnf) | refine aIf_eqf ?_
      | refine aIf_not ?_ | (refine aIf_dec (fun _ => ?_) (fun _ => ?_) <;> conv => whnf))
    all_goals (first | (exfalso; omega) | skip)
    exact retLBM (if_neg hP) (decide_eq_false hP) rfl rfl
theorem l3CutShape_call {c d : Nat} {a l : List Int} {env : List AV} {rows : List Row} {ctr low : Nat} {k : AV → St → Prop} (hpre : shapeOk a = true ∧ l.length = 3) (h : k (.tup [.ref rows.length ctr 0 (cshL a l).length, .bool (decide (cshP a l))]) ⟨env, rows ++ [⟨ctr, 3, 1, (cshL a l).map (.int .i64)⟩], ctr + 1, low⟩) :
    CallB Tryz.prog 146 ⟨env, rows, ctr, low⟩ [.sl c a.length (a.map (.int .i64)), .sl d l.length (l.map (.int .i64))] k := callLB_in l3CutShape_sound (c, a, d, l) hpre h
abbrev shA (x : Nd) (ss : List (List Int)) : List Int := ss.getD x.a.toNat []
abbrev shB (x : Nd) (ss : List (List Int)) : List Int := ss.getD x.b.toNat []
def kOk (x : Nd) (ss : List (List Int)) : Prop :=
  x.op ≤ 1 ∨ x.op = 6 ∨ (2 ≤ x.op ∧ x.op ≤ 5 ∧ jOk (shA x ss) (shB x ss) = true) ∨ (x.op = 7 ∧ 0 ≤ x.l.getD (Int.toNat 0) 0 ∧ x.l.getD (Int.toNat 0) 0 < (shA x ss).length) ∨ (x.op = 8 ∧ tsOk (shA x ss) x.l = true) ∨
  (x.op = 9 ∧ countOf x.l = cntTo (shA x ss) (shA x ss).length) ∨ (x.op = 10 ∧ cshP (shA x ss) x.l) ∨ (x.op = 11 ∧ bshP (shA x ss) (shB x ss) (x.l.getD (Int.toNat 0) 0)) ∨ (x.op = 12 ∧ (shA x ss).length = 2 ∧ (shB x ss).length = 2 ∧ (shA x ss).getD (Int.toNat 1) 0 = (shB x ss).getD (Int.toNat 0) 0)
instance (x : Nd) (ss : List (List Int)) : Decidable (kOk x ss) := by unfold kOk; infer_instance
def kL (x : Nd) (ss ins : List (List Int)) : List Int :=
  if x.op = 0 then ins.getD x.a.toNat [] else if x.op = 1 then [] else if x.op = 6 then shA x ss else if x.op = 7 then wo (shA x ss) (x.l.getD (Int.toNat 0) 0).toNat else if x.op = 8 then tsL (shA x ss) x.l else if x.op = 9 then x.l
  else if x.op = 10 then cshL (shA x ss) x.l else if x.op = 11 then bshL (shA x ss) (shB x ss) (x.l.getD (Int.toNat 0) 0) else if x.op = 12 then [(shA x ss).getD (Int.toNat 0) 0, (shB x ss).getD (Int.toNat 1) 0] else jL (shA x ss) (shB x ss)
def spL (x : Nd) (ss ins : List (List Int)) : List Int := if (x.op = 7 ∨ x.op = 12) ∧ ¬ kOk x ss then [] else kL x ss ins
theorem spL_ok {x : Nd} {ss ins : List (List Int)} (h : kOk x ss) : spL x ss ins = kL x ss ins := if_neg fun h' => h'.2 h
theorem l2Without_calli {c : Nat} {xs : List Int} {i : Int} {env : List AV} {rows : List Row} {ctr low : Nat} {k : AV → St → Prop} (hpre : xs.length ≤ 1048576 ∧ 0 ≤ i ∧ i < xs.length) (h : k (.ref rows.length ctr 0 (wo xs i.toNat).length) ⟨env, rows ++ [⟨ctr, 3, 1, (wo xs i.toNat).map (.int .i64)⟩], ctr + 1, low⟩) :
    CallB Tryz.prog 143 ⟨env, rows, ctr, low⟩ [.sl c xs.length (xs.map (.int .i64)), .int .i64 i] k := by
  obtain ⟨a, rfl⟩ : ∃ a : Nat, i = a := ⟨i.toNat, by omega⟩
  exact l2Without_call (by omega) h
def allOk (ss : List (List Int)) : Prop := ∀ j, j < ss.length → shapeOk (ss.getD j []) = true
end Go.Proofs.YtjmdhfjemaoebaaGreat
namespace Go.Proofs.YtjmdhfjemaoebaaGreat
set_option maxRecDepth 20000
open Go.RowKit Go.Am
attribute [local irreducible] aPlan aGet aIf aLoop aCall RetB NextB CallB CallG aCut aSet aAppend
end Go.Proofs.YtjmdhfjemaoebaaGreat
namespace Go.Proofs.YtjmdhfjemaoebaaGreat
set_option maxRecDepth 20000
open Go.RowKit Go.Am
attribute [local irreducible] aPlan aGet aIf aLoop aCall RetB NextB CallB CallG aCut aSet aAppend
theorem wo_eq {xs ps : List Int} {a : Nat} (hl : xs.length = ps.length) (ha : a < xs.length) : wo xs a = wo ps a ↔ ps = xs.set a (ps.getD a 0) := by
  have e1 : ps = ps.take a ++ ([ps.getD a 0] ++ ps.drop (a + 1)) := by
    conv => lhs; rw [← List.take_append_drop a ps]
    congr 1
    rw [List.drop_eq_getElem_cons (by omega)]; simp [List.getD, List.getElem?_eq_getElem (show a < ps.length by omega)]
  have e2 : xs.set a (ps.getD a 0) = xs.take a ++ ([ps.getD a 0] ++ xs.drop (a + 1)) := by
    rw [List.set_eq_take_append_cons_drop, if_pos ha]; rfl
  constructor
  · intro h
    unfold wo at h
    have hlen : (xs.take a).length = (ps.take a).length := by simp; omega
    obtain ⟨h1, h2⟩ := List.append_inj h hlen
    rw [e2, h1, h2]; exact e1
  · intro h
    rw [e2] at h
    have h := e1.symm.trans h
    have hlen : (ps.take a).length = (xs.take a).length := by simp; omega
    obtain ⟨h1, h2⟩ := List.append_inj h hlen
    have h3 : ps.drop (a + 1) = xs.drop (a + 1) := by simpa using h2
    unfold wo
    rw [h1, h3]
end Go.Proofs.YtjmdhfjemaoebaaGreat
namespace Go.Proofs.YtjmdhfjemaoebaaGreat
set_option maxRecDepth 20000
open Go.RowKit Go.Am
set_option linter.unusedSimpArgs false
def allZ (zs : List Int) : Prop := ∀ j, zs.getD j 0 = 0
theorem allZ_rep (n : Nat) : allZ (List.replicate n 0) := fun j => by
  simp only [List.getD, List.getElem?_replicate]; split <;> rfl
theorem allZ_map {n : Nat} {f : Nat → Int} (h : ∀ j, j < n → f j = 0) : allZ ((List.range n).map f) := fun j => by
  by_cases hj : j < n
  · rw [range_getD hj]; exact h j hj
  · simp [List.getD, List.getElem?_map, List.getElem?_eq_none (show (List.range n).length ≤ j by simp; omega)]
theorem allZ_sm {xs zs : List Int} {a : Nat} (hz : allZ zs) : ∀ k, allZ (smTo xs zs a k)
  | 0 => allZ_rep _
  | k + 1 => fun j => by
    have ih := allZ_sm (xs := xs) (a := a) hz k
    rw [smTo]
    by_cases hl : (sumI xs a k).toNat < (smTo xs zs a k).length
    · rw [getD_set hl]
      split
      · rw [ih, hz]; rfl
      · exact ih j
    · rw [List.set_eq_of_length_le (by omega)]; exact ih j
theorem two_z (op : Int) : two op 0 0 = 0 := by
  unfold two
  split
  · rfl
  · split
    · rfl
    · split
      · rfl
      · split <;> rfl
theorem allZ_two {op : Int} {us vs : List Int} (hu : allZ us) (hv : allZ vs) : allZ (twoL op us vs) := allZ_map fun j _ => by rw [hu, hv, two_z]
theorem allZ_rd {nums shape steps : List Int} {start : Int} (h : allZ nums) : allZ (rdL nums shape steps start) := allZ_map fun _ _ => h _
theorem dot_z {zs qs : List Int} {m c i j : Nat} (hz : allZ zs) : ∀ k, dotT zs qs m c i j k = 0
  | 0 => rfl
  | k + 1 => by rw [dotT, dot_z hz k, hz, Int.zero_mul]; rfl
theorem allZ_pr {zs qs : List Int} {r m c : Nat} (hz : allZ zs) : allZ (prL zs qs r m c) := allZ_map fun _ _ => dot_z hz _
theorem tensor_z {xs zs : List Int} (hs : shapeOk xs = true) (hl : zs.length = (cntTo xs xs.length).toNat) (hz : allZ zs) : tensorOk xs zs = true :=
  tensorOk_t hs (by have := cnt64 hs (Nat.le_refl _); omega) fun j _ => by rw [hz j]; omega
theorem zsOf_z (xs : List Int) : allZ (zsOf xs) := allZ_rep _
theorem zsOf_len {xs : List Int} (hs : shapeOk xs = true) : (zsOf xs).length = (cntTo xs xs.length).toNat := by
  have : countOf xs = cntTo xs xs.length := if_pos hs
  simp [zsOf, this]
theorem zsOf_ok {xs : List Int} (hs : shapeOk xs = true) : tensorOk xs (zsOf xs) = true := tensor_z hs (zsOf_len hs) (zsOf_z xs)
structure ComZ (M : TM) (ok : Prop) (L : List Int) : Prop where
  b : ok → M.2.2 = true ∧ M.1 = L ∧ shapeOk L = true
  n : ¬ ok → M.2.2 = false ∧ M.1 = []
theorem comZ_t {M : TM} {ok : Prop} {L zs : List Int} (h : ok) (hM : M = (L, zs, true)) (hs : shapeOk L = true) : ComZ M ok L := ⟨fun _ => by rw [hM]; exact ⟨rfl, rfl, hs⟩, fun h' => absurd h h'⟩
theorem comZ_f {M : TM} {ok : Prop} {L : List Int} (h : ¬ ok) (hM : M = noT) : ComZ M ok L := ⟨fun h' => absurd h' h, fun _ => by rw [hM]; exact ⟨rfl, rfl⟩⟩
theorem neg_z {A : List Int} (hA : shapeOk A = true) : ComZ (negM A (zsOf A)) True A := comZ_t trivial (if_pos (zsOf_ok hA)) hA
theorem sum_z {A : List Int} {i : Int} (hA : shapeOk A = true) : ComZ (sumM A (zsOf A) i) (0 ≤ i ∧ i < A.length) (wo A i.toNat) := by
  by_cases h : 0 ≤ i ∧ i < A.length
  · obtain ⟨a, rfl⟩ : ∃ a : Nat, i = a := ⟨i.toNat, by omega⟩
    have F := sum_facts hA (show a < A.length by omega)
    refine comZ_t (zs := smTo A (zsOf A) a (zsOf A).length) h ?_ F.sh
    rw [sumM_t (zsOf_ok hA) (by omega), told_t (tensor_z F.sh (smTo_length _ _ _ _) (allZ_sm (zsOf_z A) _))]
    rw [Int.toNat_natCast]
  · exact comZ_f h (sumM_f2 h)
theorem turn_z {A l : List Int} (hA : shapeOk A = true) : ComZ (turnM A (zsOf A) l) (tsOk A l = true) (tsL A l) := by
  by_cases h : turnOk l A.length = true
  · have ht : tsOk A l = true := by unfold tsOk; rw [hA, h]; rfl
    have hL : tsL A l = turned A l := if_pos ht
    refine comZ_t ht ((if_pos ⟨zsOf_ok hA, h⟩).trans (by rw [hL])) ?_
    rw [hL]; exact (turn_facts hA h).sh
  · have ht : ¬ tsOk A l = true := fun ht => h (by unfold tsOk at ht; rw [Bool.and_eq_true] at ht; exact ht.2)
    exact comZ_f ht (if_neg fun h' => h h'.2)
theorem fold_z {A l : List Int} (hA : shapeOk A = true) : ComZ (foldM A (zsOf A) l) (countOf l = cntTo A A.length) l := by
  have hc := cnt64 hA (Nat.le_refl _)
  have hl := zsOf_len hA
  by_cases h : countOf l = cntTo A A.length
  · have hs : shapeOk l = true := by
      by_cases hs : shapeOk l = true
      · exact hs
      · have : countOf l = -1 := if_neg hs
        omega
    exact comZ_t h (if_pos ⟨zsOf_ok hA, by omega⟩) hs
  · exact comZ_f h (if_neg fun h' => h (by have := h'.2; omega))
theorem cut_z {A l : List Int} (hA : shapeOk A = true) : ComZ (cutM A (zsOf A) (l.getD (Int.toNat 0) 0) (l.getD (Int.toNat 1) 0) (l.getD (Int.toNat 2) 0)) (cshP A l) (cshL A l) := by
  by_cases h : cshP A l
  · obtain ⟨h0, h2, h1⟩ := h
    have hP : cutP A (zsOf A) (l.getD (Int.toNat 0) 0) (l.getD (Int.toNat 1) 0) (l.getD (Int.toNat 2) 0) := ⟨zsOf_ok hA, h0, h1.1, h2.1, by omega⟩
    have hL : cshL A l = cutSh A (l.getD (Int.toNat 0) 0).toNat (l.getD (Int.toNat 2) 0) := if_pos ⟨h0, h2, h1⟩
    rw [hL]
    refine comZ_t ⟨h0, h2, h1⟩ (if_pos hP) ?_
    exact (cut_facts hA (show (l.getD (Int.toNat 0) 0).toNat < A.length by omega) h1.1 h2.1 (by omega)).sh
  · refine comZ_f h (cutM_f fun h' => h ⟨h'.2.1, ?_, h'.2.2.1, by have := h'.2.2.2.2; omega⟩)
    have hz := size_in hA (show (l.getD (Int.toNat 0) 0).toNat < A.length by have := h'.2.1; omega)
    have := h'.2.2
    omega
theorem beside_z {A B : List Int} {i : Int} (hA : shapeOk A = true) (hB : shapeOk B = true) : ComZ (bsM A (zsOf A) B (zsOf B) i) (bshP A B i) (bshL A B i) := by
  by_cases h : bshP A B i
  · obtain ⟨a, rfl⟩ : ∃ a : Nat, i = a := ⟨i.toNat, by have := h.2.1; omega⟩
    have hP := h
    have h3 := h.2.2.1
    rw [Int.toNat_natCast] at h3
    have hQ : bsP A (zsOf A) B (zsOf B) (a : Int) := ⟨zsOf_ok hA, zsOf_ok hB, h.2.1, by rw [Int.toNat_natCast]; exact (wo_eq h.1 (by have := h.2.1; omega)).1 h3, h.2.2.2⟩
    have hT := bs_told hQ
    rw [bshL_t hP]
    exact comZ_t hP (bsM_t hQ) ((tensorOk_iff _ _).1 hT.1).1
  · refine comZ_f h (bsM_f fun h' => h ?_)
    have h4 := h'.2.2.2.1
    have hl : A.length = B.length := by have := congrArg List.length h4; rw [List.length_set] at this; omega
    exact ⟨hl, h'.2.2.1, (wo_eq hl (by have := h'.2.2.1; omega)).2 h4, h'.2.2.2.2⟩
theorem two_zz {op : Int} {A B : List Int} (hop : 0 ≤ op ∧ op ≤ 3) (hA : shapeOk A = true) (hB : shapeOk B = true) : ComZ (twoM op A (zsOf A) B (zsOf B)) (jOk A B = true) (jL A B) := by
  by_cases h : jOk A B = true
  · have hs := jL_ok h
    refine comZ_t (zs := twoL op (sprd A (zsOf A) (jL A B)) (sprd B (zsOf B) (jL A B))) h ?_ hs
    rw [twoM_t ⟨zsOf_ok hA, zsOf_ok hB, hop, h⟩]
    exact told_t (tensor_z hs (by rw [twoL_length, rdL_length]) (allZ_two (allZ_rd (zsOf_z A)) (allZ_rd (zsOf_z B))))
  · exact comZ_f h (twoM_f fun h' => h h'.2.2.2)
theorem prod_z {A B : List Int} (hA : shapeOk A = true) (hB : shapeOk B = true) : ComZ (prM A (zsOf A) B (zsOf B)) (A.length = 2 ∧ B.length = 2 ∧ A.getD 1 0 = B.getD 0 0) [A.getD 0 0, B.getD 1 0] := by
  by_cases h : A.length = 2 ∧ B.length = 2 ∧ A.getD 1 0 = B.getD 0 0
  · obtain ⟨h1, h2, h3⟩ := h
    have a0 := size_in hA (show 0 < A.length by omega)
    have b1 := size_in hB (show 1 < B.length by omega)
    have hs : shapeOk [A.getD 0 0, B.getD 1 0] = true := shapeOk_t (by simp) fun j hj => by
      have : j = 0 ∨ j = 1 := by simp at hj; omega
      rcases this with rfl | rfl
      · exact (okSize_iff _).2 a0
      · exact (okSize_iff _).2 b1
    refine comZ_t (zs := prL (zsOf A) (zsOf B) (A.getD 0 0).toNat (A.getD 1 0).toNat (B.getD 1 0).toNat) ⟨h1, h2, h3⟩ ?_ hs
    rw [prM_t ⟨zsOf_ok hA, zsOf_ok hB, h1, h2, h3⟩]
    refine told_t (tensor_z hs ?_ (allZ_pr (zsOf_z A)))
    rw [prL_length, cnt2 hs rfl]
    show _ = (A.getD 0 0 * B.getD 1 0).toNat
    rw [Int.toNat_mul (by omega) (by omega)]
  · exact comZ_f h (prM_f fun h' => h h'.2.2)
theorem com_z {x : Nd} {ss ins : List (List Int)} {B : List Int} (h2 : 2 ≤ x.op ∧ x.op ≤ 12) (hA : shapeOk (shA x ss) = true) (hB : shapeOk B = true) (hBe : (x.op ≤ 5 ∨ 11 ≤ x.op) → B = shB x ss) :
    ComZ (comM x (shA x ss) (zsOf (shA x ss)) B (zsOf B)) (kOk x ss) (kL x ss ins) := by
  have hop : x.op = 6 ∨ x.op = 7 ∨ x.op = 8 ∨ x.op = 9 ∨ x.op = 10 ∨ x.op = 11 ∨ x.op = 12 ∨ (2 ≤ x.op ∧ x.op ≤ 5) := by omega
  have move : ∀ {M : TM} {p : Prop} {L : List Int}, ComZ M p L → comM x (shA x ss) (zsOf (shA x ss)) B (zsOf B) = M → (p ↔ kOk x ss) → kL x ss ins = L → ComZ (comM x (shA x ss) (zsOf (shA x ss)) B (zsOf B)) (kOk x ss) (kL x ss ins) := fun h e1 e2 e3 => by
    rw [e1, e3]; exact ⟨fun hk => h.b (e2.2 hk), fun hk => h.n fun hp => hk (e2.1 hp)⟩
  rcases hop with h | h | h | h | h | h | h | h
  · exact move (neg_z hA) (by simp [comM, h]) (by simp [kOk, h]) (by simp [kL, h])
  · exact move (sum_z (i := x.l.getD (Int.toNat 0) 0) hA) (by simp [comM, h]) (by simp [kOk, h]) (by simp [kL, h])
  · exact move (turn_z (l := x.l) hA) (by simp [comM, h]) (by simp [kOk, h]) (by simp [kL, h])
  · exact move (fold_z (l := x.l) hA) (by simp [comM, h]) (by simp [kOk, h]) (by simp [kL, h])
  · exact move (cut_z (l := x.l) hA) (by simp [comM, h]) (by simp [kOk, h]) (by simp [kL, h])
  · have e := hBe (.inr (by omega))
    subst e
    exact move (beside_z (i := x.l.getD (Int.toNat 0) 0) hA hB) (by simp [comM, h]) (by simp [kOk, h]) (by simp [kL, h])
  · have e := hBe (.inr (by omega))
    subst e
    exact move (prod_z hA hB) (by simp [comM, h]) (by simp [kOk, h]) (by simp [kL, h])
  · have e := hBe (.inl h.2)
    subst e
    have hw : IntKind.i64.wrap (IntKind.i64.wrap (x.op - 2) + 0) = x.op - 2 := by
      rw [IntWalk.i64_in (x.op - 2) (by omega), Int.add_zero, IntWalk.i64_in _ (by omega)]
    refine move (two_zz (op := x.op - 2) (by omega) hA hB) ?_ ?_ ?_
    · unfold comM
      rw [if_neg (by omega), if_neg (by omega), if_neg (by omega), if_neg (by omega), if_neg (by omega), if_neg (by omega), if_neg (by omega), hw]
    · constructor
      · intro hj; exact .inr (.inr (.inl ⟨h.1, h.2, hj⟩))
      · intro hk
        rcases hk with hk | hk | hk | hk | hk | hk | hk | hk | hk
        all_goals (first | omega | exact hk.2.2)
    · unfold kL
      rw [if_neg (by omega), if_neg (by omega), if_neg (by omega), if_neg (by omega), if_neg (by omega), if_neg (by omega), if_neg (by omega), if_neg (by omega), if_neg (by omega)]
end Go.Proofs.YtjmdhfjemaoebaaGreat
namespace Go.Proofs.YtjmdhfjemaoebaaGreat
set_option maxRecDepth 20000
open Go.RowKit Go.Am Go.WideShapes Go.ChangeShapes
theorem own_ : ownKnob Tryz.prog.godebug = none := by kernel_rfl
theorem laid_ : laidOutB Tryz.prog = true := by kernel_rfl
theorem uInts : Tryz.prog.underlying 38 = some (.slice 3) := by kernel_rfl
theorem uInt : Tryz.prog.underlying 3 = some (.int .i64) := by kernel_rfl
end Go.Proofs.YtjmdhfjemaoebaaGreat
namespace Go.Proofs.YtjmdhfjemaoebaaGreat
set_option maxRecDepth 20000
open Go.RowKit Go.Am Go.WideShapes Go.ChangeShapes
end Go.Proofs.YtjmdhfjemaoebaaGreat
