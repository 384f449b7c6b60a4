import Derived.Test.YtjmdhfjemaoebaaGreatAmL
namespace Go.Am
open Go.RowKit
variable {D : Nat → Prop}
def ptrTy (P : Program) (t : TypeId) : Bool :=
  match P.underlying t with
  | some (.pointer _) => true
  | _ => false
def anyB (p : TypeId → Bool) : List TypeId → Bool
  | [] => false
  | t :: ts => match p t with
    | true => true
    | false => anyB p ts
def heavyO (P : Program) (o : Oper) : Bool :=
  match o.op with
  | .store _ _ _ => true
  | .call c =>
    match c.callee with
    | .builtin .append => true
    | .value (.func _) => anyB (ptrTy P) c.argTypes.toList
    | _ => false
  | _ => false
def readerO (o : Oper) : Bool :=
  match o.op with
  | .move _ => true
  | .assign _ => true
  | .pick _ _ _ => true
  | .load _ _ => true
  | .nilCheck _ => true
  | .binOp _ _ _ _ _ => true
  | .unOp _ _ _ => true
  | .convert _ _ _ => true
  | .slice _ _ _ _ _ => true
  | .fieldAddr _ _ _ => true
  | .field _ _ _ => true
  | .indexAddr _ _ _ => true
  | .index _ _ _ => true
  | .extract _ _ => true
  | .call c =>
    match c.callee with
    | .builtin .len => true
    | _ => false
  | _ => false
def noQ : Exit → Act → World → Prop := fun _ _ _ => False
section
variable {P : Program} {ops : Array Oper} {md : Region.Mode} {hv : Oper → Bool}
theorem wp_any_Q {o : Oper} {a : Act} {w : World} {K : Act → World → Prop} {Q : Exit → Act → World → Prop} (h : o.wp P a w K noQ) : o.wp P a w K Q := by
  unfold Oper.wp at *
  generalize (execOp a.eval o).run P w = r at *
  cases r with
  | ok n w' =>
    cases n <;> simp only [Oper.upon] at h ⊢ <;>
      first
        | exact h
        | exact Calls.mono h (fun e w'' he => by
            cases e with
            | returned u => exact he
            | panicked c => exact he.elim
            | outgrown => obtain ⟨_, _, hf⟩ := he; exact hf.elim)
        | exact Rows.mono h (fun _ _ he => he)
  | halt x w' => cases x <;> simp only [Oper.upon] at h ⊢ <;> first | exact h | exact False.elim h
def wpOpX (P : Program) (ops : Array Oper) (hv : Oper → Bool) (i : Nat) (K : Act → World → Prop) (a : Act) (w : World) : Prop :=
  match ops[i]? with
  | none => K a w
  | some o => if Region.wanted o (yielded ops a.tmps) then o.wp P a w (fun a' w' => (hv o = false → Ext w w') ∧ K a' w') noQ else K (a.put o.dst undef) w
theorem wpOpX_mono {i : Nat} {a : Act} {w : World} {K K' : Act → World → Prop} (h : ∀ a w, K a w → K' a w) (hh : wpOpX P ops hv i K a w) : wpOpX P ops hv i K' a w := by
  unfold wpOpX at *
  split
  · exact h _ _ (by simpa [*] using hh)
  · rename_i o ho
    simp only [ho] at hh
    split
    · rename_i hw; simp only [hw, if_true] at hh; exact Oper.wp_mono (fun a' w' ⟨h1, h2⟩ => ⟨h1, h _ _ h2⟩) hh
    · rename_i hw; simp only [hw] at hh; exact h _ _ hh
def wpAnyX (P : Program) (md : Region.Mode) (ops : Array Oper) (hv : Oper → Bool) (Q : Act → World → Prop) : Nat → Array Bool → Act → World → Prop
  | 0, listed, a, w => Region.ready md ops listed = [] ∧ Q a w
  | fuel + 1, listed, a, w => (Region.ready md ops listed = [] → Q a w) ∧ ∀ i ∈ Region.ready md ops listed, wpOpX P ops hv i (wpAnyX P md ops hv Q fuel (listed.setIfInBounds i true)) a w
theorem wpAny_of_X {Q : Act → World → Prop} {Q' : Exit → Act → World → Prop} (hQ : ∀ a w, Q a w → Q' .normal a w) : ∀ (fuel : Nat) (listed : Array Bool) (a : Act) (w : World), wpAnyX P md ops hv Q fuel listed a w → wpAny P md ops Q' fuel listed a w
  | 0, _, _, _, h => ⟨h.1, hQ _ _ h.2⟩
  | fuel + 1, listed, a, w, h => ⟨fun h0 => hQ _ _ (h.1 h0), fun i hi => by
    have h1 := h.2 i hi
    unfold wpOpX at h1
    unfold wpOp
    split at h1
    · rename_i h0; simp only [h0]; exact wpAny_of_X hQ fuel _ _ _ h1
    · rename_i o h0
      simp only [h0]
      split at h1
      · rename_i hw
        rw [if_pos hw]
        exact .inl (wp_any_Q (Oper.wp_mono (fun a' w' ⟨_, h2⟩ => wpAny_of_X hQ fuel _ _ _ h2) h1))
      · rename_i hw
        rw [if_neg hw]
        exact wpAny_of_X hQ fuel _ _ _ h1⟩
def YieldsX (P : Program) (ops : Array Oper) (o : Oper) (v : Value) (a : Act) (w : World) : Prop :=
  (Region.wanted o (yielded ops a.tmps) = true ∧ ∀ w', (loadsO o = true → Ext w w') → (execOp a.eval o).run P w' = .ok (.value v) w') ∨
  (Region.wanted o (yielded ops a.tmps) = false ∧ v = undef)
theorem YieldsX.op {i : Nat} {o : Oper} {v : Value} {a : Act} {w : World} (hi : ops[i]? = some o) (hy : YieldsX P ops o v a w) {K : Act → World → Prop} (h : K (a.put o.dst v) w) : wpOpX P ops hv i K a w := by
  unfold wpOpX
  simp only [hi]
  rcases hy with ⟨hw, hv⟩ | ⟨hw, rfl⟩
  · simp only [hw, if_true, Oper.wp, hv w (fun _ => Ext.refl w), Oper.upon]; exact ⟨fun _ => Ext.refl w, h⟩
  · simp only [hw, Bool.false_eq_true, if_false]; exact h
theorem YieldsX.of_same {o : Oper} {v : Value} {a a' : Act} {w w' : World} (hy : YieldsX P ops o v a w) (hx : loadsO o = true → Ext w w') (he : execOp a'.eval o = execOp a.eval o)
    (hw : Region.wanted o (yielded ops a'.tmps) = Region.wanted o (yielded ops a.tmps)) : YieldsX P ops o v a' w' := by
  unfold YieldsX at *
  rw [he, hw]
  rcases hy with ⟨h1, h2⟩ | h
  · exact .inl ⟨h1, fun w'' h'' => h2 w'' fun hl => (hx hl).trans (h'' hl)⟩
  · exact .inr h
theorem wpOpX_put {j : Nat} {oi oj : Oper} {v : Value} (hj : ops[j]? = some oj) (hap : oi.apart ops oj = true)
    (hsi : ∀ cs b, oi.op ≠ .select cs b) (hsj : ∀ cs b, oj.op ≠ .select cs b) (hst : loadsO oi = true → hv oj = false)
    {K : Act → World → Prop} {a : Act} {w : World} (hy : YieldsX P ops oi v a w) (h : wpOpX P ops hv j K (a.put oi.dst v) w) :
    wpOpX P ops hv j (fun a' w' => YieldsX P ops oi v a' w' ∧ K (a'.put oi.dst v) w') a w := by
  obtain ⟨h1, h2, h3⟩ := Oper.apart_spec hap
  have keep : ∀ (a : Act) (w w' : World), YieldsX P ops oi v a w → (hv oj = false → Ext w w') → ∀ u, YieldsX P ops oi v (a.put oj.dst u) w' := fun a w w' hy hx u =>
    hy.of_same (fun hl => hx (hst hl)) (execOp_put oi hsi a oj.dst u h3) (wanted_put oi a oj.dst u h3)
  have keepD : ∀ d, YieldsX P ops oi v { a with defers := d :: a.defers } w := fun d => hy.of_same (fun _ => Ext.refl w) rfl rfl
  unfold wpOpX at *
  simp only [hj] at *
  rw [wanted_put oj a oi.dst v h1] at h
  split
  · rename_i hw
    simp only [hw, if_true] at h
    unfold Oper.wp at *
    rw [execOp_put oj hsj a oi.dst v h1] at h
    generalize (execOp a.eval oj).run P w = r at *
    cases r with
    | ok n w' =>
      cases n <;> simp only [Oper.upon] at h ⊢
      case value u => exact ⟨h.1, keep a w w' hy h.1 u, by rw [← Act.put_comm a v u h2]; exact h.2⟩
      case skip => exact ⟨h.1, keep a w w' hy h.1 _, by rw [← Act.put_comm a v undef h2]; exact h.2⟩
      case defer d =>
        refine ⟨h.1, keep _ w w' (keepD d) h.1 _, ?_⟩
        rw [← Act.put_comm _ v undef h2, ← Act.put_defers]
        exact h.2
      case enter f args =>
        refine Calls.mono h fun e w'' he => ?_
        cases e with
        | returned u => exact ⟨he.1, keep a w w'' hy he.1 u, by rw [← Act.put_comm a v u h2]; exact he.2⟩
        | panicked c => exact he.elim
        | outgrown => exact he
      case row row args => exact Rows.mono h fun u w'' he => ⟨he.1, keep a w w'' hy he.1 u, by rw [← Act.put_comm a v u h2]; exact he.2⟩
    | halt x w' =>
      cases x <;> simp only [Oper.upon] at h ⊢
      case panic u => exact h.elim
  · rename_i hw
    simp only [hw] at h
    refine ⟨keep a w w hy (fun _ => Ext.refl w) _, by rw [← Act.put_comm a v undef h2]; exact h⟩
theorem wpAnyX_first {Q : Act → World → Prop} {i : Nat} {oi : Oper} {v : Value} (hi : ops[i]? = some oi) (hsel : ∀ (j : Nat) (o : Oper) cs b, ops[j]? = some o → o.op ≠ .select cs b) (S : Nat → Bool)
    (hS2 : loadsO oi = true → ∀ (j : Nat) (oj : Oper), ops[j]? = some oj → j ≠ i → S j = false → ∃ e ∈ oj.after, Region.binds md e = true ∧ S e.on = false) :
    ∀ (fuel : Nat) (listed : Array Bool) (a : Act) (w : World),
      (∀ j oj, ops[j]? = some oj → j ≠ i → listed.getD j true = false → (∀ e ∈ oj.after, Region.binds md e = true → e.on ≠ i) → oi.apart ops oj = true) →
      (loadsO oi = true → ∀ j : Nat, listed.getD j false = true → S j = true) →
      (loadsO oi = true → ∀ (j : Nat) (oj : Oper), ops[j]? = some oj → S j = true → listed.getD j true = false → j ≠ i → hv oj = false) →
      i ∈ Region.ready md ops listed → YieldsX P ops oi v a w →
      wpAnyX P md ops hv Q fuel (listed.setIfInBounds i true) (a.put oi.dst v) w → wpAnyX P md ops hv Q (fuel + 1) listed a w := by
  intro fuel
  induction fuel with
  | zero =>
    intro listed a w _ _ _ hr hy H
    refine ⟨fun h => (by rw [h] at hr; cases hr), fun j hj => ?_⟩
    by_cases hji : j = i
    · subst hji; exact hy.op hi H
    · have := ready_mono hj hji
      rw [H.1] at this
      cases this
  | succ fuel ih =>
    intro listed a w hfree hS1 hS3 hr hy H
    refine ⟨fun h => (by rw [h] at hr; cases hr), fun j hj => ?_⟩
    by_cases hji : j = i
    · subst hji; exact hy.op hi H
    · have h1 := H.2 j (ready_mono hj hji)
      obtain ⟨hjun, oj, hoj, hall⟩ := mem_ready.1 hj
      have hnot : ∀ e ∈ oj.after, Region.binds md e = true → e.on ≠ i := fun e he hb heq => by
        have h1 := hall e he hb
        have h0 := (mem_ready.1 hr).1
        rw [heq] at h1
        rcases Nat.lt_or_ge i listed.size with h' | h'
        · simp [h'] at h0 h1; rw [h0] at h1; cases h1
        · simp [Array.getElem?_eq_none h'] at h1
      have hSj : loadsO oi = true → S j = true := fun hl => by
        cases hs : S j with
        | true => rfl
        | false =>
          obtain ⟨e, he, hb, hse⟩ := hS2 hl j oj hoj hji hs
          have := hS1 hl _ (hall e he hb)
          rw [hse] at this; cases this
      have h2 := wpOpX_put hoj (hfree j oj hoj hji hjun hnot) (fun cs b => hsel i oi cs b hi) (fun cs b => hsel j oj cs b hoj) (fun hl => hS3 hl j oj hoj (hSj hl) hjun hji) hy h1
      have keepUn : ∀ k : Nat, (listed.setIfInBounds j true).getD k true = false → listed.getD k true = false := fun k hun => by
        by_cases hjk : j = k
        · subst hjk; exact hjun
        · rw [getD_set_ne true hjk] at hun; exact hun
      have hfree' : ∀ k ok, ops[k]? = some ok → k ≠ i → (listed.setIfInBounds j true).getD k true = false →
          (∀ e ∈ ok.after, Region.binds md e = true → e.on ≠ i) → oi.apart ops ok = true := fun k ok hk hki hun hno => hfree k ok hk hki (keepUn k hun) hno
      have hS1' : loadsO oi = true → ∀ k : Nat, (listed.setIfInBounds j true).getD k false = true → S k = true := fun hl k hk => by
        by_cases hjk : j = k
        · subst hjk; exact hSj hl
        · rw [getD_set_ne false hjk] at hk; exact hS1 hl k hk
      have hS3' : loadsO oi = true → ∀ (k : Nat) (ok : Oper), ops[k]? = some ok → S k = true → (listed.setIfInBounds j true).getD k true = false → k ≠ i → hv ok = false := fun hl k ok hk hs hun hki => hS3 hl k ok hk hs (keepUn k hun) hki
      refine wpOpX_mono (fun a' w' h3 => ih (listed.setIfInBounds j true) a' w' hfree' hS1' hS3' (ready_mono hr (Ne.symm hji)) h3.1 ?_) h2
      rw [Array.setIfInBounds_comm _ _ hji]
      exact h3.2
def behind (md : Region.Mode) (ops : Array Oper) (i : Nat) : List Bool :=
  ops.toList.foldl (fun B o => B ++ [B.length == i || o.after.any fun e => Region.binds md e && B.getD e.on false]) []
def stayS (ops : Array Oper) (B : List Bool) (j : Nat) : Bool := !(decide (j < ops.size) && B.getD j false)
def loadOk (md : Region.Mode) (ops : Array Oper) (hv : Oper → Bool) (listed : Array Bool) (i : Nat) (B : List Bool) : Bool :=
  (List.range ops.size).all fun j =>
    match ops[j]? with
    | none => true
    | some oj => (!listed.getD j false || stayS ops B j) && (j == i || stayS ops B j || oj.after.any fun e => Region.binds md e && !stayS ops B e.on) && (j == i || !stayS ops B j || listed.getD j true || !hv oj)
def planGo (md : Region.Mode) (ops : Array Oper) (hv : Oper → Bool) : List Nat → Array Bool → Bool
  | [], listed => (Region.ready md ops listed).isEmpty
  | i :: is, listed =>
    match ops[i]? with
    | none => false
    | some o => (if readerO o = true then (Region.ready md ops listed).contains i && Region.free md ops listed i && (!loadsO o || loadOk md ops hv listed i (behind md ops i)) else decide (Region.ready md ops listed = [i])) &&
        planGo md ops hv is (listed.setIfInBounds i true)
def planB (md : Region.Mode) (ops : Array Oper) (hv : Oper → Bool) (l : List Nat) : Bool := Region.noSelect ops && l.length == ops.size && planGo md ops hv l (Array.replicate ops.size false)
def walkX (P : Program) (ops : Array Oper) (hv : Oper → Bool) (Q : Act → World → Prop) : List Nat → Act → World → Prop
  | [], a, w => Q a w
  | i :: is, a, w =>
    match ops[i]? with
    | none => False
    | some o =>
      if Region.wanted o (yielded ops a.tmps) then
        (if readerO o = true then ∃ v, (∀ w', (loadsO o = true → Ext w w') → (execOp a.eval o).run P w' = .ok (.value v) w') ∧ walkX P ops hv Q is (a.put o.dst v) w
        else o.wp P a w (fun a' w' => (hv o = false → Ext w w') ∧ walkX P ops hv Q is a' w') noQ)
      else walkX P ops hv Q is (a.put o.dst undef) w
theorem plan_any {Q : Act → World → Prop} (hsel : Region.noSelect ops = true) : ∀ (l : List Nat) (listed : Array Bool) (a : Act) (w : World), listed.size = ops.size → planGo md ops hv l listed = true → walkX P ops hv Q l a w → wpAnyX P md ops hv Q l.length listed a w
  | [], listed, a, w, hsz, hB, h => ⟨by simpa [planGo] using hB, h⟩
  | i :: is, listed, a, w, hsz, hB, h => by
    unfold planGo at hB
    split at hB
    case h_1 => cases hB
    rename_i o ho
    simp only [Bool.and_eq_true] at hB
    obtain ⟨h1, h2⟩ := hB
    have hsz' : (listed.setIfInBounds i true).size = ops.size := by simp [hsz]
    unfold walkX at h
    simp only [ho] at h
    by_cases hrd : readerO o = true
    · rw [if_pos hrd] at h1
      simp only [Bool.and_eq_true, Bool.or_eq_true, Bool.not_eq_true'] at h1
      obtain ⟨⟨hr, hf⟩, hl⟩ := h1
      have hy : ∃ v, YieldsX P ops o v a w ∧ walkX P ops hv Q is (a.put o.dst v) w := by
        by_cases hw : Region.wanted o (yielded ops a.tmps) = true
        · rw [if_pos hw, if_pos hrd] at h
          obtain ⟨v, h3, h4⟩ := h
          exact ⟨v, .inl ⟨hw, h3⟩, h4⟩
        · rw [if_neg hw] at h
          exact ⟨undef, .inr ⟨by simpa using hw, rfl⟩, h⟩
      obtain ⟨v, hy, hK⟩ := hy
      have hchk : loadsO o = true → loadOk md ops hv listed i (behind md ops i) = true := fun h' => by
        rcases hl with hl | hl
        · rw [hl] at h'; cases h'
        · exact hl
      have each : loadsO o = true → ∀ (j : Nat) (oj : Oper), ops[j]? = some oj → (listed.getD j false = false ∨ stayS ops (behind md ops i) j = true) ∧
          (j = i ∨ stayS ops (behind md ops i) j = true ∨ ∃ e ∈ oj.after, Region.binds md e = true ∧ stayS ops (behind md ops i) e.on = false) ∧
          (j = i ∨ stayS ops (behind md ops i) j = false ∨ listed.getD j true = true ∨ hv oj = false) := fun h' j oj hoj => by
        have := hchk h'
        unfold loadOk at this
        rw [List.all_eq_true] at this
        have h3 := this j (List.mem_range.2 (Array.getElem?_eq_some_iff.1 hoj).1)
        simp only [hoj, Bool.and_eq_true, Bool.or_eq_true, Bool.not_eq_true', beq_iff_eq] at h3
        obtain ⟨⟨c1, c2⟩, c3⟩ := h3
        refine ⟨c1, ?_, ?_⟩
        · rcases c2 with (c2 | c2) | c2
          · exact .inl c2
          · exact .inr (.inl c2)
          · obtain ⟨e, he, hb⟩ := Array.any_eq_true'.1 c2
            simp only [Bool.and_eq_true, Bool.not_eq_true'] at hb
            exact .inr (.inr ⟨e, he, hb.1, hb.2⟩)
        · rcases c3 with ((c3 | c3) | c3) | c3
          · exact .inl c3
          · exact .inr (.inl c3)
          · exact .inr (.inr (.inl c3))
          · exact .inr (.inr (.inr c3))
      refine wpAnyX_first ho (Region.noSelect_spec hsel) (stayS ops (behind md ops i)) (fun h' j oj hoj hji hs => ?_) is.length listed a w (Region.free_spec ho hf) (fun h' j hj => ?_) (fun h' j oj hoj hs hun hji => ?_) (by simpa using hr) hy (plan_any hsel is _ _ _ hsz' h2 hK)
      · rcases (each h' j oj hoj).2.1 with c | c | c
        · exact absurd c hji
        · rw [hs] at c; cases c
        · exact c
      · by_cases hlt : j < ops.size
        · rcases (each h' j ops[j] (Array.getElem?_eq_getElem hlt)).1 with c | c
          · rw [hj] at c; cases c
          · exact c
        · unfold stayS; simp [hlt]
      · rcases (each h' j oj hoj).2.2 with c | c | c | c
        · exact absurd c hji
        · rw [hs] at c; cases c
        · rw [hun] at c; cases c
        · exact c
    · rw [if_neg hrd] at h1
      have hr : Region.ready md ops listed = [i] := by simpa using h1
      refine ⟨fun h0 => (by rw [h0] at hr; cases hr), fun j hj => ?_⟩
      rw [hr] at hj
      have hji : j = i := by simpa using hj
      subst hji
      unfold wpOpX
      simp only [ho]
      by_cases hw : Region.wanted o (yielded ops a.tmps) = true
      · rw [if_pos hw] at h ⊢
        rw [if_neg hrd] at h
        exact Oper.wp_mono (fun a' w' ⟨h3, h4⟩ => ⟨h3, plan_any hsel is _ _ _ hsz' h2 h4⟩) h
      · rw [if_neg hw] at h ⊢
        exact plan_any hsel is _ _ _ hsz' h2 h
theorem wp_region_plan {id : Nat} {Q : Exit → Act → World → Prop} {a : Act} {w : World} (l : List Nat) (hm : P.follows .mixedOrders = true) (hB : planB .any ops hv l = true)
    (h : walkX P ops hv (Q .normal) l a { w with drawn := w.drawn + 1 }) : (Code.region id ops true).wp P Q a w := by
  simp only [planB, Bool.and_eq_true, beq_iff_eq] at hB
  obtain ⟨⟨h1, h2⟩, h3⟩ := hB
  refine wp_region_any hm (wpAny_of_X (hv := hv) (fun _ _ h => h) _ _ _ _ ?_)
  have := plan_any (md := .any) h1 l (Array.replicate ops.size false) a { w with drawn := w.drawn + 1 } (by simp) h3 h
  rwa [h2] at this
inductive PT where
  | nil : PT
  | one (i : Nat) (t : PT) : PT
  | two (i j : Nat) (t u : PT) : PT
  | tri (i j l : Nat) (t u v : PT) : PT
  | qua (i j l m : Nat) (t u v x : PT) : PT
def treeGo (md : Region.Mode) (ops : Array Oper) (hv : Oper → Bool) : PT → Nat → Array Bool → Bool
  | .nil, n, listed => n == 0 && (Region.ready md ops listed).isEmpty
  | .one _ _, 0, _ => false
  | .one i t, n + 1, listed =>
    match ops[i]? with
    | none => false
    | some o => (if readerO o = true then (Region.ready md ops listed).contains i && Region.free md ops listed i && (!loadsO o || loadOk md ops hv listed i (behind md ops i)) else decide (Region.ready md ops listed = [i])) &&
        treeGo md ops hv t n (listed.setIfInBounds i true)
  | .two _ _ _ _, 0, _ => false
  | .two i j t u, n + 1, listed => decide (Region.ready md ops listed = [i, j]) && (treeGo md ops hv t n (listed.setIfInBounds i true) && treeGo md ops hv u n (listed.setIfInBounds j true))
  | .tri _ _ _ _ _ _, 0, _ => false
  | .tri i j l t u v, n + 1, listed => decide (Region.ready md ops listed = [i, j, l]) && (treeGo md ops hv t n (listed.setIfInBounds i true) && (treeGo md ops hv u n (listed.setIfInBounds j true) && treeGo md ops hv v n (listed.setIfInBounds l true)))
  | .qua _ _ _ _ _ _ _ _, 0, _ => false
  | .qua i j l m t u v x, n + 1, listed => decide (Region.ready md ops listed = [i, j, l, m]) && (treeGo md ops hv t n (listed.setIfInBounds i true) && (treeGo md ops hv u n (listed.setIfInBounds j true) && (treeGo md ops hv v n (listed.setIfInBounds l true) && treeGo md ops hv x n (listed.setIfInBounds m true))))
def treeB (md : Region.Mode) (ops : Array Oper) (hv : Oper → Bool) (t : PT) : Bool := Region.noSelect ops && treeGo md ops hv t ops.size (Array.replicate ops.size false)
def stepX (P : Program) (ops : Array Oper) (hv : Oper → Bool) (i : Nat) (K : Act → World → Prop) (a : Act) (w : World) : Prop :=
  match ops[i]? with
  | none => False
  | some o =>
    if Region.wanted o (yielded ops a.tmps) then
      (if readerO o = true then ∃ v, (∀ w', (loadsO o = true → Ext w w') → (execOp a.eval o).run P w' = .ok (.value v) w') ∧ K (a.put o.dst v) w
      else o.wp P a w (fun a' w' => (hv o = false → Ext w w') ∧ K a' w') noQ)
    else K (a.put o.dst undef) w
theorem stepX_op {i : Nat} {K : Act → World → Prop} {a : Act} {w : World} (h : stepX P ops hv i K a w) : wpOpX P ops hv i K a w := by
  unfold stepX at h
  split at h
  · exact h.elim
  · rename_i o ho
    by_cases hw : Region.wanted o (yielded ops a.tmps) = true
    · rw [if_pos hw] at h
      by_cases hr : readerO o = true
      · rw [if_pos hr] at h
        obtain ⟨v, h1, h2⟩ := h
        exact YieldsX.op ho (.inl ⟨hw, h1⟩) h2
      · rw [if_neg hr] at h
        unfold wpOpX
        simp only [ho]
        rw [if_pos hw]
        exact h
    · rw [if_neg hw] at h
      unfold wpOpX
      simp only [ho]
      rw [if_neg hw]
      exact h
def walkT (P : Program) (ops : Array Oper) (hv : Oper → Bool) (Q : Act → World → Prop) : PT → Act → World → Prop
  | .nil => Q
  | .one i t => stepX P ops hv i (walkT P ops hv Q t)
  | .two i j t u => fun a w => stepX P ops hv i (walkT P ops hv Q t) a w ∧ stepX P ops hv j (walkT P ops hv Q u) a w
  | .tri i j l t u v => fun a w => stepX P ops hv i (walkT P ops hv Q t) a w ∧ stepX P ops hv j (walkT P ops hv Q u) a w ∧ stepX P ops hv l (walkT P ops hv Q v) a w
  | .qua i j l m t u v x => fun a w => stepX P ops hv i (walkT P ops hv Q t) a w ∧ stepX P ops hv j (walkT P ops hv Q u) a w ∧ stepX P ops hv l (walkT P ops hv Q v) a w ∧ stepX P ops hv m (walkT P ops hv Q x) a w
theorem reader_first {Q : Act → World → Prop} {i n : Nat} {o : Oper} {listed : Array Bool} {a : Act} {w : World} (hsel : Region.noSelect ops = true) (ho : ops[i]? = some o)
    (hr : (Region.ready md ops listed).contains i = true) (hf : Region.free md ops listed i = true) (hl : loadsO o = false ∨ loadOk md ops hv listed i (behind md ops i) = true)
    (hy : ∃ v, YieldsX P ops o v a w ∧ wpAnyX P md ops hv Q n (listed.setIfInBounds i true) (a.put o.dst v) w) : wpAnyX P md ops hv Q (n + 1) listed a w := by
  obtain ⟨v, hy, hK⟩ := hy
  have hchk : loadsO o = true → loadOk md ops hv listed i (behind md ops i) = true := fun h' => by
    rcases hl with hl | hl
    · rw [hl] at h'; cases h'
    · exact hl
  have each : loadsO o = true → ∀ (j : Nat) (oj : Oper), ops[j]? = some oj → (listed.getD j false = false ∨ stayS ops (behind md ops i) j = true) ∧
      (j = i ∨ stayS ops (behind md ops i) j = true ∨ ∃ e ∈ oj.after, Region.binds md e = true ∧ stayS ops (behind md ops i) e.on = false) ∧
      (j = i ∨ stayS ops (behind md ops i) j = false ∨ listed.getD j true = true ∨ hv oj = false) := fun h' j oj hoj => by
    have := hchk h'
    unfold loadOk at this
    rw [List.all_eq_true] at this
    have h3 := this j (List.mem_range.2 (Array.getElem?_eq_some_iff.1 hoj).1)
    simp only [hoj, Bool.and_eq_true, Bool.or_eq_true, Bool.not_eq_true', beq_iff_eq] at h3
    obtain ⟨⟨c1, c2⟩, c3⟩ := h3
    refine ⟨c1, ?_, ?_⟩
    · rcases c2 with (c2 | c2) | c2
      · exact .inl c2
      · exact .inr (.inl c2)
      · obtain ⟨e, he, hb⟩ := Array.any_eq_true'.1 c2
        simp only [Bool.and_eq_true, Bool.not_eq_true'] at hb
        exact .inr (.inr ⟨e, he, hb.1, hb.2⟩)
    · rcases c3 with ((c3 | c3) | c3) | c3
      · exact .inl c3
      · exact .inr (.inl c3)
      · exact .inr (.inr (.inl c3))
      · exact .inr (.inr (.inr c3))
  refine wpAnyX_first ho (Region.noSelect_spec hsel) (stayS ops (behind md ops i)) (fun h' j oj hoj hji hs => ?_) n listed a w (Region.free_spec ho hf) (fun h' j hj => ?_) (fun h' j oj hoj hs hun hji => ?_) (by simpa using hr) hy hK
  · rcases (each h' j oj hoj).2.1 with c | c | c
    · exact absurd c hji
    · rw [hs] at c; cases c
    · exact c
  · by_cases hlt : j < ops.size
    · rcases (each h' j ops[j] (Array.getElem?_eq_getElem hlt)).1 with c | c
      · rw [hj] at c; cases c
      · exact c
    · unfold stayS; simp [hlt]
  · rcases (each h' j oj hoj).2.2 with c | c | c | c
    · exact absurd c hji
    · rw [hs] at c; cases c
    · rw [hun] at c; cases c
    · exact c
theorem tree_any {Q : Act → World → Prop} (hsel : Region.noSelect ops = true) : ∀ (t : PT) (n : Nat) (listed : Array Bool) (a : Act) (w : World), treeGo md ops hv t n listed = true → walkT P ops hv Q t a w → wpAnyX P md ops hv Q n listed a w
  | .nil, n, listed, a, w, hB, h => by
    simp only [treeGo, Bool.and_eq_true, beq_iff_eq, List.isEmpty_iff] at hB
    obtain ⟨rfl, h0⟩ := hB
    exact ⟨h0, h⟩
  | .one i t, 0, listed, a, w, hB, h => by simp [treeGo] at hB
  | .one i t, n + 1, listed, a, w, hB, h => by
    unfold treeGo at hB
    split at hB
    case h_1 => cases hB
    rename_i o ho
    simp only [Bool.and_eq_true] at hB
    obtain ⟨h1, h2⟩ := hB
    have h : stepX P ops hv i (walkT P ops hv Q t) a w := h
    by_cases hrd : readerO o = true
    · rw [if_pos hrd] at h1
      simp only [Bool.and_eq_true, Bool.or_eq_true, Bool.not_eq_true'] at h1
      obtain ⟨⟨hr, hf⟩, hl⟩ := h1
      refine reader_first hsel ho hr hf hl ?_
      unfold stepX at h
      simp only [ho] at h
      by_cases hw : Region.wanted o (yielded ops a.tmps) = true
      · rw [if_pos hw, if_pos hrd] at h
        obtain ⟨v, h3, h4⟩ := h
        exact ⟨v, .inl ⟨hw, h3⟩, tree_any hsel t _ _ _ _ h2 h4⟩
      · rw [if_neg hw] at h
        exact ⟨undef, .inr ⟨by simpa using hw, rfl⟩, tree_any hsel t _ _ _ _ h2 h⟩
    · rw [if_neg hrd] at h1
      have hr : Region.ready md ops listed = [i] := by simpa using h1
      refine ⟨fun h0 => (by rw [h0] at hr; cases hr), fun j hj => ?_⟩
      rw [hr] at hj
      have hji : j = i := by simpa using hj
      subst hji
      exact wpOpX_mono (fun a' w' h' => tree_any hsel t _ _ _ _ h2 h') (stepX_op h)
  | .two i j t u, 0, listed, a, w, hB, h => by simp [treeGo] at hB
  | .two i j t u, n + 1, listed, a, w, hB, h => by
    simp only [treeGo, Bool.and_eq_true, decide_eq_true_eq] at hB
    obtain ⟨hr, h2, h3⟩ := hB
    obtain ⟨k1, k2⟩ := h
    refine ⟨fun h0 => (by rw [h0] at hr; cases hr), fun m hm => ?_⟩
    rw [hr] at hm
    have hm' : m = i ∨ m = j := by simpa using hm
    rcases hm' with e | e
    · rw [e]; exact wpOpX_mono (fun a' w' h' => tree_any hsel t _ _ _ _ h2 h') (stepX_op k1)
    · rw [e]; exact wpOpX_mono (fun a' w' h' => tree_any hsel u _ _ _ _ h3 h') (stepX_op k2)
  | .tri i j l t u v, 0, listed, a, w, hB, h => by simp [treeGo] at hB
  | .tri i j l t u v, n + 1, listed, a, w, hB, h => by
    simp only [treeGo, Bool.and_eq_true, decide_eq_true_eq] at hB
    obtain ⟨hr, h2, h3, h4⟩ := hB
    obtain ⟨k1, k2, k3⟩ := h
    refine ⟨fun h0 => (by rw [h0] at hr; cases hr), fun m hm => ?_⟩
    rw [hr] at hm
    have hm' : m = i ∨ m = j ∨ m = l := by simpa using hm
    rcases hm' with e | e | e
    · rw [e]; exact wpOpX_mono (fun a' w' h' => tree_any hsel t _ _ _ _ h2 h') (stepX_op k1)
    · rw [e]; exact wpOpX_mono (fun a' w' h' => tree_any hsel u _ _ _ _ h3 h') (stepX_op k2)
    · rw [e]; exact wpOpX_mono (fun a' w' h' => tree_any hsel v _ _ _ _ h4 h') (stepX_op k3)
  | .qua i j l m t u v x, 0, listed, a, w, hB, h => by simp [treeGo] at hB
  | .qua i j l m t u v x, n + 1, listed, a, w, hB, h => by
    simp only [treeGo, Bool.and_eq_true, decide_eq_true_eq] at hB
    obtain ⟨hr, h2, h3, h4, h5⟩ := hB
    obtain ⟨k1, k2, k3, k4⟩ := h
    refine ⟨fun h0 => (by rw [h0] at hr; cases hr), fun p hm => ?_⟩
    rw [hr] at hm
    have hm' : p = i ∨ p = j ∨ p = l ∨ p = m := by simpa using hm
    rcases hm' with e | e | e | e
    · rw [e]; exact wpOpX_mono (fun a' w' h' => tree_any hsel t _ _ _ _ h2 h') (stepX_op k1)
    · rw [e]; exact wpOpX_mono (fun a' w' h' => tree_any hsel u _ _ _ _ h3 h') (stepX_op k2)
    · rw [e]; exact wpOpX_mono (fun a' w' h' => tree_any hsel v _ _ _ _ h4 h') (stepX_op k3)
    · rw [e]; exact wpOpX_mono (fun a' w' h' => tree_any hsel x _ _ _ _ h5 h') (stepX_op k4)
theorem wp_region_tree {id : Nat} {Q : Exit → Act → World → Prop} {a : Act} {w : World} (t : PT) (hm : P.follows .mixedOrders = true) (hB : treeB .any ops hv t = true)
    (h : walkT P ops hv (Q .normal) t a { w with drawn := w.drawn + 1 }) : (Code.region id ops true).wp P Q a w := by
  simp only [treeB, Bool.and_eq_true] at hB
  exact wp_region_any hm (wpAny_of_X (hv := hv) (fun _ _ h => h) _ _ _ _ (tree_any (md := .any) hB.1 t ops.size (Array.replicate ops.size false) a { w with drawn := w.drawn + 1 } hB.2 h))
end
def heavyS (o : Oper) : Bool :=
  match o.op with
  | .store _ _ _ => true
  | .call c =>
    match c.callee with
    | .builtin .append => true
    | .value (.func _) => true
    | _ => false
  | _ => false
inductive HM where
  | lo
  | hi
  | of (fs : List Nat)
def ofB (fs : List Nat) (o : Oper) : Bool :=
  match o.op with
  | .call c =>
    match c.callee with
    | .value (.func f) => fs.contains f
    | _ => false
  | _ => false
def heavyB (P : Program) (b : HM) (o : Oper) : Bool :=
  match b with
  | .lo => heavyO P o
  | .hi => heavyS o
  | .of fs => heavyO P o || ofB fs o
theorem heavyB_of {P : Program} {b : HM} {o : Oper} (h : heavyO P o = true) : heavyB P b o = true := by
  cases b with
  | lo => exact h
  | of fs =>
    show (heavyO P o || ofB fs o) = true
    rw [h]; rfl
  | hi =>
    show heavyS o = true
    unfold heavyO at h
    unfold heavyS
    cases ho : o.op with
    | store _ _ _ => rfl
    | call c =>
      rw [ho] at h
      simp only at h ⊢
      cases hc : c.callee with
      | builtin x => rw [hc] at h; cases x <;> simp_all
      | value v => rw [hc] at h; cases v <;> simp_all
      | _ => rw [hc] at h; simp at h
    | _ => rw [ho] at h; simp at h
def aOpX (P : Program) (q : HM) (o : Oper) (s : St) (k : St → Prop) : Prop :=
  match o.op with
  | .call c =>
    match c.callee with
    | .value (.func f) =>
      match heavyB P q o with
      | true => CallG P f s (c.args.toList.map s.ev) (thenPut o.dst k)
      | false => aArgs s (c.args.toList.map s.ev) fun us => CallB P f s us (thenPut o.dst k)
    | _ => aOp P o s k
  | _ => aOp P o s k
def aOpsX (P : Program) (q : HM) (ops : Array Oper) : List Nat → St → (St → Prop) → Prop
  | [], s, k => k s
  | i :: is, s, k =>
    match ops.toList[i]? with
    | none => False
    | some o =>
      match o.guard with
      | none => aOpX P q o s fun s' => aOpsX P q ops is s' k
      | some (j, want) => aGuard ops s j (fun d b => aIf (b == want) (s.putK (some d) (.bool want) fun s1 => aOpX P q o s1 fun s' => aOpsX P q ops is s' k) (s.putK (some d) (.bool (!want)) fun s1 => s1.putK o.dst (.tup []) fun s2 => aOpsX P q ops is s2 k)) (s.putK o.dst (.tup []) fun s2 => aOpsX P q ops is s2 k)
def aStepX (P : Program) (q : HM) (ops : Array Oper) (i : Nat) (s : St) (k : St → Prop) : Prop :=
  match ops.toList[i]? with
  | none => False
  | some o =>
    match o.guard with
    | none => aOpX P q o s k
    | some (j, want) => aGuard ops s j (fun d b => aIf (b == want) (s.putK (some d) (.bool want) fun s1 => aOpX P q o s1 k) (s.putK (some d) (.bool (!want)) fun s1 => s1.putK o.dst (.tup []) k)) (s.putK o.dst (.tup []) k)
@[irreducible] def aFork (p q : Prop) : Prop := p ∧ q
theorem fork_in {p q : Prop} (hp : p) (hq : q) : aFork p q := by unfold aFork; exact ⟨hp, hq⟩
theorem fork_out {p q : Prop} (h : aFork p q) : p ∧ q := by unfold aFork at h; exact h
def aTree (P : Program) (q : HM) (ops : Array Oper) : PT → St → (St → Prop) → Prop
  | .nil, s, k => k s
  | .one i t, s, k => aStepX P q ops i s fun s' => aTree P q ops t s' k
  | .two i j t u, s, k => aFork (aStepX P q ops i s fun s' => aTree P q ops t s' k) (aStepX P q ops j s fun s' => aTree P q ops u s' k)
  | .tri i j l t u v, s, k => aFork (aStepX P q ops i s fun s' => aTree P q ops t s' k) (aFork (aStepX P q ops j s fun s' => aTree P q ops u s' k) (aStepX P q ops l s fun s' => aTree P q ops v s' k))
  | .qua i j l m t u v x, s, k => aFork (aStepX P q ops i s fun s' => aTree P q ops t s' k) (aFork (aStepX P q ops j s fun s' => aTree P q ops u s' k) (aFork (aStepX P q ops l s fun s' => aTree P q ops v s' k) (aStepX P q ops m s fun s' => aTree P q ops x s' k)))
def aPlan0 (P : Program) (_id : Nat) (ops : Array Oper) (s : St) (k : St → Prop) : Prop :=
  P.follows .mixedOrders = true ∧ ∃ q, ((∃ l, planB .any ops (heavyB P q) l = true ∧ aOpsX P q ops l s k) ∨ (∃ t, treeB .any ops (heavyB P q) t = true ∧ aTree P q ops t s k))
theorem plan_in0 {P : Program} {id : Nat} {ops : Array Oper} {s : St} {k : St → Prop} (l : List Nat) (hm : P.follows .mixedOrders = true) (hB : planB .any ops (heavyO P) l = true) (h : aOpsX P .lo ops l s k) : aPlan0 P id ops s k := ⟨hm, .lo, .inl ⟨l, hB, h⟩⟩
theorem plan_in20 {P : Program} {id : Nat} {ops : Array Oper} {s : St} {k : St → Prop} (l : List Nat) (hm : P.follows .mixedOrders = true) (hB : planB .any ops heavyS l = true) (h : aOpsX P .hi ops l s k) : aPlan0 P id ops s k := ⟨hm, .hi, .inl ⟨l, hB, h⟩⟩
theorem tree_in0 {P : Program} {id : Nat} {ops : Array Oper} {s : St} {k : St → Prop} (t : PT) (hm : P.follows .mixedOrders = true) (hB : treeB .any ops (heavyO P) t = true) (h : aTree P .lo ops t s k) : aPlan0 P id ops s k := ⟨hm, .lo, .inr ⟨t, hB, h⟩⟩
section
variable {P : Program} {w w0 : World} {φ φ0 : Places} {s : St} {K : Nat → Prop} {a : Act}
theorem aOp_read {o : Oper} {k : St → Prop} (h : Inv D K w0 φ0 φ a w s) (hr : readerO o = true) (hk : aOp P o s k) :
    ∃ v φ' s', (∀ w', (loadsO o = true → Ext w w') → (execOp a.eval o).run P w' = .ok (.value v) w') ∧ Inv D K w0 φ0 φ' (a.put o.dst v) w s' ∧ k s' := by
  have plain : aVal P o s (fun u => k (s.put o.dst u)) → ∃ v φ' s', (∀ w', (loadsO o = true → Ext w w') → (execOp a.eval o).run P w' = .ok (.value v) w') ∧ Inv D K w0 φ0 φ' (a.put o.dst v) w s' ∧ k s' := fun hk => by
    obtain ⟨v, u, h1, h2, h3⟩ := aVal_okL h.sr hk
    exact ⟨v, φ, _, h1, h.put o.dst h2, h3⟩
  unfold aOp at hk
  simp only [thenPut_eq, putK_eq] at hk
  split at hk
  · rename_i x ho
    have hx := h.sr.ev x
    have hrun : ∀ w', (execOp a.eval o).run P w' = .ok (.value (a.eval x)) w' := fun w' => by unfold execOp; simp only [ho, Sem.run_pure]
    generalize s.ev x = xu at hk hx
    split at hk
    · obtain ⟨e, z, hk⟩ := slTy_out hk
      cases hx' : a.eval x with
      | slice A n c =>
        rw [hx'] at hx hrun
        cases hx with
        | nil =>
        obtain ⟨b1, b2⟩ := h.sr.push (r := ⟨s.ctr, e, z, []⟩) (ob := none) rfl (Ext.refl w) (fun g hg => by cases hg) ⟨rfl, fun _ => rfl⟩ (fun _ => rfl)
        refine ⟨_, φ.snoc none, _, fun w' _ => hrun w', h.next o.dst b1 (u := .ref s.rows.length s.ctr 0 0) ?_ (Keeps.refl _ _) (fun g hg => .inl (by simpa [Places.snoc] using hg)) (Lows.new (fun i hi => List.getElem?_append_left (by have h1 := h.sr.lo; have h2 := h.sr.len; omega)) (fun _ _ => rfl)) rfl, hk⟩
        refine .ref _ _ _ _ _ (by simp [St.push]) rfl fun r hr hver => .inl ⟨?_, rfl, rfl, rfl⟩
        rw [← h.sr.len]; simp [Places.snoc]
      | _ => rw [hx'] at hx; cases hx
    · exact ⟨_, φ, _, fun w' _ => hrun w', h.put o.dst hx, hk⟩
  · rename_i e ho; simp [readerO, ho] at hr
  · rename_i e x ho; simp [readerO, ho] at hr
  · rename_i t parts ho; simp [readerO, ho] at hr
  · rename_i t len parts ho; simp [readerO, ho] at hr
  · rename_i t l c ho; simp [readerO, ho] at hr
  · rename_i t p v ho; simp [readerO, ho] at hr
  · rename_i t p ho
    obtain ⟨v, u, φ', s', h1, h2, h3, h4⟩ := aLoadO_ok h (h.sr.ev p) hk
    refine ⟨v, φ', _, fun w' hw => ?_, h2.put o.dst h3, h4⟩
    have hx : Ext w w' := hw (by simp [loadsO, ho])
    unfold execOp
    simp only [ho, Sem.run_bind, h1 w' hx, Result.andThen_ok, Sem.run_pure]
  · rename_i c ho
    split at hk
    · rename_i hc; simp [readerO, ho, hc] at hr
    · rename_i f hc; simp [readerO, ho, hc] at hr
    · exact plain hk
  · exact plain hk
theorem ext_of_keeps {w w' : World} (h : Keeps (fun b => b < w.heap.size) w w') : Ext w w' := ⟨h.size, fun b hb => h.block b hb⟩
theorem wp_doesX {o : Oper} {k : AV → St → Prop} {next : Act → World → Prop} (h : Inv D K w0 φ0 φ a w s) {sem : Sem Value} (he : execOp a.eval o = (do pure (.value (← sem)))) (hd : Does D s.low P w φ a.tmps.toList (fun b => b < w.heap.size) sem k)
    (hn : ∀ a' w' φ' s' u, Ext w w' → Inv D K w0 φ0 φ' a' w' (s'.put o.dst u) → k u s' → next a' w') : o.wp P a w next noQ := by
  obtain ⟨v, u, w', φ', s', h1, h2, h3, h4, h5, h6, h7, h8⟩ := hd
  have h4' : Keeps K w w' := ⟨h4.os, h4.tape, h4.output, h4.size, fun b hb => h4.block b (h.hKl b hb)⟩
  unfold Oper.wp
  rw [he]
  simp only [Sem.run_bind, h1, Result.andThen_ok, Sem.run_pure]
  exact hn _ _ φ' s' u (ext_of_keeps h4) (h.next o.dst h2 h3 h4' h5 h6 h7) h8
theorem aOpX_wp {b : HM} {o : Oper} {k : St → Prop} {next : Act → World → Prop} (h : Inv D K w0 φ0 φ a w s) (hr : readerO o = false) (hk : aOpX P b o s k) (hn : ∀ a' w', (heavyB P b o = false → Ext w w') → Post D K w0 φ0 k a' w' → next a' w') : o.wp P a w next noQ := by
  have heavy : heavyB P b o = true → aOp P o s k → o.wp P a w next noQ := fun hh hk => aOp_wp h hk fun a' w' hp => hn a' w' (fun e => by rw [hh] at e; cases e) hp
  have fin : ∀ (a' : Act) (w' : World) (φ' : Places) (s' : St) (u : AV), Ext w w' → Inv D K w0 φ0 φ' a' w' (s'.put o.dst u) → k (s'.put o.dst u) → next a' w' := fun a' w' φ' s' u he h1 h2 => hn _ _ (fun _ => he) ⟨φ', _, h1, h2⟩
  have light : (∀ c f, o.op = .call c → c.callee ≠ .value (.func f)) → aOp P o s k → o.wp P a w next noQ := fun hf hk => by
    have hk0 := hk
    unfold aOp at hk
    simp only [thenPut_eq, putK_eq] at hk
    split at hk
    · rename_i x ho; simp [readerO, ho] at hr
    · rename_i e ho
      exact wp_doesX h (by simp only [execOp, ho]) (aAlloc_ok h.sr (fun _ hb => hb) hk) fin
    · rename_i e x ho
      exact wp_doesX h (by simp only [execOp, ho]) (aBox_ok h.sr (fun _ hb => hb) (h.sr.ev x) hk) fin
    · rename_i t parts ho
      obtain ⟨p1, p2⟩ := parts_ok h.sr parts
      exact wp_doesX h (by simp only [execOp, ho]) (aBuild_ok h.sr p1 p2 hk) fin
    · rename_i t len parts ho
      obtain ⟨p1, p2⟩ := parts_ok h.sr parts
      exact wp_doesX h (by simp only [execOp, ho]) (aBuildSlice_ok h.sr (fun _ hb => hb) p1 p2 hk) fin
    · rename_i t l c ho
      exact wp_doesX h (by simp only [execOp, ho]) (aMake_ok h.sr (fun _ hb => hb) (h.sr.ev l) (h.sr.ev c) hk) fin
    · rename_i t p v ho
      exact heavy (heavyB_of (by simp [heavyO, ho])) hk0
    · rename_i t p ho; simp [readerO, ho] at hr
    · rename_i c ho
      split at hk
      · rename_i hc; exact heavy (heavyB_of (by simp [heavyO, ho, hc])) hk0
      · rename_i f hc
        exact absurd hc (hf c f ho)
      · exact absurd hk (by
          intro hk
          unfold aVal at hk
          simp only [ho] at hk
          split at hk
          · rename_i hc; simp [readerO, ho, hc] at hr
          · exact hk)
    · exfalso
      unfold aVal at hk
      cases ho : o.op <;> simp [ho, readerO] at hr hk <;> simp_all
  unfold aOpX at hk
  split at hk
  · rename_i c ho
    split at hk
    · rename_i f hc
      split at hk
      · rename_i hh
        exact heavy hh (by unfold aOp; simp only [ho, hc]; exact hk)
      · rename_i hh
        simp only [thenPut_eq] at hk
        obtain ⟨e1, e2⟩ := evs_ok h.sr c.args
        obtain ⟨hent, hcall⟩ := aCallT_ok (K := K) h.sr h.ap h.hKl e1 e2 (callB_out hk)
        unfold Oper.wp
        have hrun : (execOp a.eval o).run P w = .ok (.enter f (c.args.map a.eval)) w := by
          have h1 : ∀ ty, (resolve a.eval c ty).run P w = .ok { target := .fn (.func f) #[], args := c.args.map a.eval } w := fun ty => by
            unfold resolve
            simp only [hc]
            show (Deferred.ofValue (Value.func (.func f) #[] #[]) (c.args.map a.eval)).run P w = _
            simp [Deferred.ofValue]
          unfold execOp
          simp only [ho, Sem.run_bind, h1, Result.andThen_ok, invoke, Array.append_empty]
          exact hent _ _
        rw [hrun]
        refine hcall.mono ?_
        rintro e w' ⟨v, u, φ', s', rfl, h2, h3, h4, h5, h6, h7, h8, h9⟩
        exact fin _ _ φ' s' u ⟨h4.size, h9 rfl⟩ (h.next o.dst h2 h3 h4 h5 h6 h7) h8
    · rename_i hc
      exact light (fun c' f' h1 h2 => by
        rw [ho] at h1; cases h1
        exact hc f' h2) hk
  · rename_i ho
    exact light (fun c' f' h1 _ => ho c' h1) hk
end
end Go.Am
