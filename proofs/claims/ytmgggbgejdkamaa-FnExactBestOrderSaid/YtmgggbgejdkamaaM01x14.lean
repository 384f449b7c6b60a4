import Derived.Test.YtmgggbgejdkamaaM01x13
import Derived.Test.YtmgggbgejdkamaaM01x12
/- Structs as a law's arguments: their fields. -/
namespace Go.Am
open Go.RowKit
variable {P : Program}
def fieldsAre (P : Program) (t : TypeId) (l : List (TypeId × Nat)) : Bool :=
  match P.underlying t with
  | some (.struct fs) => fs.toList.map (fun f => (f.type, f.offset)) == l
  | _ => false
theorem fields_ok {t : TypeId} {l : List (TypeId × Nat)} {us : List AV} (hp : fieldsAre P t l = true) (h : CellsOk P t us) : us.length = P.cellsOf t ∧ ∀ p ∈ l, CellsOk P p.1 ((us.drop p.2).take (P.cellsOf p.1)) := by
  unfold fieldsAre at hp
  split at hp
  case h_2 => cases hp
  rename_i fs hu
  have hf : fs.toList.map (fun f => (f.type, f.offset)) = l := by simpa using hp
  cases h with
  | int _ k' n ht hn => rw [hu] at ht; cases ht
  | bool _ b ht => rw [hu] at ht; cases ht
  | str _ s ht hs => rw [hu] at ht; cases ht
  | sl _ e' es ht hz hes => rw [hu] at ht; cases ht
  | struct _ fs' us ht hl hf' =>
    rw [hu] at ht; cases ht
    refine ⟨hl, fun p hp => ?_⟩
    rw [← hf] at hp
    obtain ⟨f, hfm, rfl⟩ := List.mem_map.1 hp
    exact hf' f hfm
theorem cells_int {t : TypeId} {k : IntKind} {us : List AV} (hu : P.underlying t = some (.int k)) (h : CellsOk P t us) : ∃ n : Int, us = [.int k n] ∧ (Lit.int k n).wf = true := by
  cases h with
  | int _ k' n ht hn => rw [hu] at ht; cases ht; exact ⟨n, rfl, hn⟩
  | bool _ b ht => rw [hu] at ht; cases ht
  | str _ s ht hs => rw [hu] at ht; cases ht
  | sl _ e' es ht hz hes => rw [hu] at ht; cases ht
  | struct _ fs us ht hl hf => rw [hu] at ht; cases ht
theorem flat_all {α : Type} {f : α → List AV} {q : α → Prop} : ∀ (es : List (List AV)), (∀ us ∈ es, ∃ x, us = f x ∧ q x) → ∃ l : List α, es.flatten = l.flatMap f ∧ l.length = es.length ∧ ∀ x ∈ l, q x
  | [], _ => ⟨[], rfl, rfl, fun x h => by simp at h⟩
  | us :: es, h => by
    obtain ⟨l, h1, h2, h3⟩ := flat_all es fun u hu => h u (List.mem_cons_of_mem _ hu)
    obtain ⟨x, rfl, hx⟩ := h us List.mem_cons_self
    exact ⟨x :: l, by simp [h1], by simp [h2], fun y hy => by
      rcases List.mem_cons.1 hy with rfl | hy
      · exact hx
      · exact h3 y hy⟩
theorem flat_one {α : Type} (f : α → AV) : ∀ (l : List α), l.flatMap (fun x => [f x]) = l.map f
  | [] => rfl
  | x :: l => by rw [List.flatMap_cons, flat_one f l]; rfl
theorem cells_slice {α : Type} {t e : TypeId} {us : List AV} {f : α → List AV} {q : α → Prop} (hu : P.underlying t = some (.slice e)) (h : CellsOk P t us) (he : ∀ us, CellsOk P e us → ∃ x, us = f x ∧ q x) : ∃ l : List α, us = [.sl 1 l.length (l.flatMap f)] ∧ ∀ x ∈ l, q x := by
  cases h with
  | int _ k' n ht hn => rw [hu] at ht; cases ht
  | bool _ b ht => rw [hu] at ht; cases ht
  | str _ s ht hs => rw [hu] at ht; cases ht
  | sl _ e' es ht hz hes =>
    rw [hu] at ht; cases ht
    obtain ⟨l, h1, h2, h3⟩ := flat_all (f := f) (q := q) es fun us hus => he us (hes us hus)
    exact ⟨l, by rw [h1, h2], h3⟩
  | struct _ fs us ht hl hf => rw [hu] at ht; cases ht
end Go.Am
namespace Go.Proofs.Ytmgggbgejdkamaa
set_option maxRecDepth 20000
open Go.RowKit Go.Am Go.WideShapes Go.ChangeShapes
set_option linter.unusedSimpArgs false
theorem getb_n {bs : List Bool} {k : Nat} {K : AV → Prop} (h : k < bs.length) (hK : K (.bool (bs.getD k false))) : aGet ((bs.map .bool).drop ((k : Int).toNat * 1)) 0 K :=
  ⟨_, by rw [Int.toNat_natCast, Nat.mul_one]; simp [List.getElem?_drop, List.getElem?_eq_getElem h, List.getD], hK⟩
theorem getb_n0 {bs : List Bool} {k : Nat} {K : AV → Prop} (h : k < bs.length) (hK : K (.bool (bs.getD k false))) : aGet ((bs.map .bool).drop (0 + (k : Int).toNat * 1)) 0 K := by
  rw [Nat.zero_add]; exact getb_n h hK
theorem setb_n {bs : List Bool} {k : Nat} {b : Bool} {K : List AV → Prop} (hK : K ((bs.set k b).map .bool)) (h : k < bs.length) : aSet (bs.map .bool) (0 + (k : Int).toNat * 1) [.bool b] K := set_bool (by rw [Int.toNat_natCast]; exact hK) (by omega)
theorem cut_bools {bs : List Bool} {k : List AV → Prop} {f : Nat} (hk : k (bs.map .bool)) : aCut (f + 1) (bs.map .bool) 0 (bs.length * 1) k := cut_all (by simp) (scalL_bools _) hk
theorem protL_bools (bs : List Bool) : protL (bs.map .bool) = true := scalL_prot (scalL_bools bs)
theorem uIIs : Try.prog.underlying 23 = some (.slice 22) := by kernel_rfl
theorem cell_int1 : Try.prog.cellsOf 3 = 1 := by kernel_rfl
theorem cell_ints1 : Try.prog.cellsOf 22 = 1 := by kernel_rfl
theorem cell_iis1 : Try.prog.cellsOf 23 = 1 := by kernel_rfl
/-- A list more in a row of lists, which grows. -/
theorem append_ll {env : List AV} {rows : List Row} {ctr low τ ver n τ' ver' : Nat} {A : List AV} {u : AV} {k : AV → St → Prop} (hr : rows[τ]? = some ⟨ver, 22, 1, A⟩) (hn : n = A.length) (hr' : rows[τ']? = some ⟨ver', 22, 1, [u]⟩) (hu : u.isOwn = false) (hle : n ≤ 1000) (hlow : low ≤ τ)
    (hk : k (.ref τ ctr 0 (n + 1)) ⟨env, rows.set τ ⟨ctr, 22, 1, A ++ [u]⟩, ctr + 1, low⟩) : aAppend Try.prog ⟨env, rows, ctr, low⟩ 23 (.ref τ ver 0 n) (.ref τ' ver' 0 1) k := by
  have hb : (bsz Try.prog 22) = some 24 := by kernel_rfl
  have hz : zeroCellsA Try.prog 22 = some [.nil] := by kernel_rfl
  have hty : Try.prog.underlying 23 = some (.slice 22) := by kernel_rfl
  have hs : ∀ K : Nat → Prop, K 1 → aSz Try.prog 22 K := fun K h => by
    have : tsz Try.prog 22 = some 1 := by kernel_rfl
    unfold aSz; rw [this]; exact h
  subst hn
  unfold aAppend
  rw [hty]
  simp only
  rw [hz]
  simp only
  refine hs _ ?_
  unfold aElems aRow
  simp only [hr']
  rw [if_pos trivial, if_pos (.inr trivial)]
  refine ⟨⟨by simp, by simp [hu]⟩, ⟨rfl, by rw [hb]; rfl, by rw [hb]; decide⟩, ?_⟩
  simp only [hr]
  rw [if_pos trivial, if_pos (by simp)]
  refine ⟨by simp, fun h => by omega, fun _ h => by exfalso; omega, fun _ _ => ⟨hlow, by rw [hb]; simp only [Option.getD_some]; omega, ?_⟩⟩
  have e : A.take (A.length * 1) = A := List.take_of_length_le (by omega)
  rw [e]
  simpa using hk
/-- The same in a row that has room. -/
theorem append_lr {env : List AV} {rows : List Row} {ctr low τ ver n τ' ver' r : Nat} {A : List AV} {u : AV} {k : AV → St → Prop} (hr : rows[τ]? = some ⟨ver, 22, 1, A ++ List.replicate r .nil⟩) (hn : n = A.length) (hr' : rows[τ']? = some ⟨ver', 22, 1, [u]⟩) (hu : u.isOwn = false) (hle : 1 ≤ r)
    (hk : k (.ref τ ver 0 (n + 1)) ⟨env, rows.set τ ⟨ver, 22, 1, A ++ ([u] ++ List.replicate (r - 1) .nil)⟩, ctr, low⟩) : aAppend Try.prog ⟨env, rows, ctr, low⟩ 23 (.ref τ ver 0 n) (.ref τ' ver' 0 1) k := by
  have hb : (bsz Try.prog 22) = some 24 := by kernel_rfl
  have hz : zeroCellsA Try.prog 22 = some [.nil] := by kernel_rfl
  have hty : Try.prog.underlying 23 = some (.slice 22) := by kernel_rfl
  have hs : ∀ K : Nat → Prop, K 1 → aSz Try.prog 22 K := fun K h => by
    have : tsz Try.prog 22 = some 1 := by kernel_rfl
    unfold aSz; rw [this]; exact h
  subst hn
  unfold aAppend
  rw [hty]
  simp only
  rw [hz]
  simp only
  refine hs _ ?_
  unfold aElems aRow
  simp only [hr']
  rw [if_pos trivial, if_pos (.inr trivial)]
  refine ⟨⟨by simp, by simp [hu]⟩, ⟨rfl, by rw [hb]; rfl, by rw [hb]; decide⟩, ?_⟩
  simp only [hr]
  rw [if_pos trivial, if_pos (by simp)]
  refine ⟨by simp, fun h => by omega, fun _ _ => ?_, fun _ h => ?_⟩
  · have e1 : (A ++ List.replicate r AV.nil).take (A.length * 1) = A := by rw [Nat.mul_one]; exact List.take_left
    have e2 : (A ++ List.replicate r AV.nil).drop (A.length * 1 + [u].length) = List.replicate (r - 1) AV.nil := by
      rw [Nat.mul_one, ← List.drop_drop, List.drop_left, List.drop_replicate]; rfl
    simp only [Nat.zero_mul, List.drop_zero, Nat.one_mul, List.take_of_length_le (show [u].length ≤ 1 from Nat.le_refl _)]
    rw [e1, e2]
    simpa [St.setRow, Row.putC] using hk
  · exfalso; simp at h; omega
end Go.Proofs.Ytmgggbgejdkamaa

/- The abstract machine, part X: calls that a driver leaves, rows that change places, slices of slices from where they are. -/
namespace Go.Am
open Go.RowKit
/-- What a driver leaves. -/
def Held (p : Prop) : Prop := p
theorem held_in {P : Program} {f : FuncId} {s : St} {a : List AV} {k : AV → St → Prop} (h : Held (CallG P f s a k)) : CallG P f s a k := h
theorem held_out {p : Prop} (h : p) : Held p := h
theorem callG_eq {P : Program} {f : FuncId} {s : St} {a b : List AV} {k : AV → St → Prop} (h : a = b) (hk : CallG P f s b k) : CallG P f s a k := h ▸ hk
/-- A call whose arguments are trees of rows. -/
theorem callG_tree {P : Program} {f : FuncId} {s : St} {args us : List AV} {k : AV → St → Prop} (h1 : callArgs s [] [] args = some us) (h : CallB P f s us k) : CallG P f s args k := by
  obtain ⟨sp, hs, hio, x, rfl, hins, hpre, hk⟩ := h
  refine callG_x ⟨[], sp, hs, sp.args x, [], List.nodup_nil, by rw [hio]; exact h1, rfl, x, rfl, hins.symm, hpre, fun r ic news hp hic => ?_⟩
  have : ic = [] := List.eq_nil_of_length_eq_zero (by simpa using hic)
  subst this
  exact hk r news hp
/-- Two rows change their places. -/
theorem to_swap {s s' : St} (i j : Nat) (bs : List Bool) (ri rj : Row) (hi : s.rows[i]? = some ri) (hj : s.rows[j]? = some rj) (hne : i ≠ j) (hli : s.low ≤ i) (hlj : s.low ≤ j)
    (h : (s.swapAt i j bs ri rj).to s') : s.to s' := by
  obtain ⟨s1, h1, h2⟩ := h
  exact ⟨s1, .swap s s1 i j bs ri rj hi hj hne hli hlj h1, h2⟩
/-- What a cell has for itself gets a name. -/
theorem to_open {s s' : St} (τ j : Nat) (r : Row) (e : TypeId) (z n : Nat) (cs : List AV) (hr : s.rows[τ]? = some r) (hc : r.cells[j]? = some (.own e z n cs))
    (h : (s.openAt τ j r e z n cs).to s') : s.to s' := by
  obtain ⟨s1, h1, h2⟩ := h
  exact ⟨s1, .opn s s1 τ j r e z n cs hr hc h1, h2⟩

/-! Lists of numbers, each from where it is. -/
abbrev ML := List (Nat × List Int)
def mlC (x : Nat × List Int) : AV := slI x.1 x.2
theorem mlC_pure (x : Nat × List Int) : (mlC x).pure = true := slI_pure _ _
theorem ml_all (g : Nat) (fs : List (List Int)) : (fs.map fun f => (g, f)).map mlC = fs.map (slI g) := by
  rw [List.map_map]; rfl
theorem ml_snd (g : Nat) (fs : List (List Int)) : (fs.map fun f => (g, f)).map Prod.snd = fs := by
  rw [List.map_map]; exact List.map_id _
theorem ml_getD (M : ML) (k : Nat) : (M.map Prod.snd).getD k [] = (M.getD k (0, [])).2 := by
  simp only [List.getD, List.getElem?_map]
  cases M[k]? <;> rfl
theorem pureL_ml (M : ML) : pureL (M.map mlC) = true := pureL_map mlC_pure _
theorem get_ml_n {k : Nat} {M : ML} {K : AV → Prop} (h : k < M.length) (hK : K (mlC (M.getD k (0, [])))) : aGet ((M.map mlC).drop ((k : Int).toNat * 1)) 0 K := get_map _ (by simp) h hK
theorem get_ml {i : Int} {M : ML} {K : AV → Prop} (h : 0 ≤ i ∧ i < M.length) (hK : K (mlC (M.getD i.toNat (0, [])))) : aGet ((M.map mlC).drop (i.toNat * 1)) 0 K := get_map _ (by simp) (by omega) hK
theorem tr_ml {f : Nat} (x : Nat × List Int) : AV.tr (f + 1) (mlC x) = some (mlC x) := by
  show (if (mlC x).pure = true then some (mlC x) else none) = some (mlC x)
  rw [if_pos (mlC_pure x)]
theorem trL_ml {f : Nat} (M : ML) : (M.map mlC).mapM (AV.tr (f + 1)) = some (M.map mlC) := trL_map (fun x => tr_ml x) M
theorem cut_ml {f : Nat} {M : ML} {m : Nat} {k : List AV → Prop} (hm : m = M.length) (hk : k (M.map mlC)) : aCut (f + 1) (M.map mlC) 0 (m * 1) k := cut_tr (by simp [hm]) (trL_ml M) hk
end Go.Am

/- Chapter 4: SumOk. -/
namespace Go.Proofs.Ytmgggbgejdkamaa
set_option maxRecDepth 20000
open Go.RowKit Go.Am
set_option linter.unusedSimpArgs false
attribute [local irreducible] aPlan aGet aIf aLoop aCall RetB NextB CallB CallG aCut aSet aAppend

def usedP (fs : List (List Int)) (l : Int) : Prop := ∃ f ∈ fs, l ∈ f
instance (fs : List (List Int)) (l : Int) : Decidable (usedP fs l) := by unfold usedP; infer_instance
theorem mem_succ {α : Type} {d : α} {xs : List α} {k : Nat} (hk : k < xs.length) {x : α} : x ∈ xs.take (k + 1) ↔ x ∈ xs.take k ∨ x = xs.getD k d := by
  rw [List.take_add_one, List.mem_append, getD_eq (d := d) hk]
  simp
theorem usedP_succ {fs : List (List Int)} {l : Int} {k : Nat} (hk : k < fs.length) : usedP (fs.take (k + 1)) l ↔ usedP (fs.take k) l ∨ l ∈ fs.getD k [] := by
  unfold usedP
  constructor
  · rintro ⟨f, hf, hl⟩
    rcases (mem_succ (d := []) hk).1 hf with h | rfl
    · exact .inl ⟨f, h, hl⟩
    · exact .inr hl
  · rintro (⟨f, hf, hl⟩ | hl)
    · exact ⟨f, (mem_succ (d := []) hk).2 (.inl hf), hl⟩
    · exact ⟨_, (mem_succ (d := []) hk).2 (.inr rfl), hl⟩
def lettersP (fs : List (List Int)) (n : Int) : Prop := ∀ f ∈ fs, letP f n
instance (fs : List (List Int)) (n : Int) : Decidable (lettersP fs n) := by unfold lettersP; infer_instance
theorem lettersP_succ {fs : List (List Int)} {n : Int} {k : Nat} (hk : k < fs.length) : lettersP (fs.take (k + 1)) n ↔ lettersP (fs.take k) n ∧ letP (fs.getD k []) n := by
  unfold lettersP
  constructor
  · exact fun h => ⟨fun f hf => h f ((mem_succ (d := []) hk).2 (.inl hf)), h _ ((mem_succ (d := []) hk).2 (.inr rfl))⟩
  · rintro ⟨h1, h2⟩ f hf
    rcases (mem_succ (d := []) hk).1 hf with h | rfl
    · exact h1 f h
    · exact h2
theorem lettersP_k {fs : List (List Int)} {n : Int} {k : Nat} (h : lettersP fs n) (hk : k < fs.length) : letP (fs.getD k []) n := h _ (by
  simp only [List.getD, List.getElem?_eq_getElem hk, Option.getD_some]
  exact List.getElem_mem _)
theorem lettersP_take {fs : List (List Int)} {n : Int} {k : Nat} (hk : k < fs.length) (h : ¬ letP (fs.getD k []) n) : ¬ lettersP fs n := fun h' => h (lettersP_k h' hk)
def takenP (fs : List (List Int)) (n : Nat) : Prop := ∀ l, l < n → usedP fs l
instance (fs : List (List Int)) (n : Nat) : Decidable (takenP fs n) := by unfold takenP; infer_instance
def sumP (zs : List Int) (fs : List (List Int)) (o : List Int) : Prop := zs.length ≤ 5 ∧ btw zs 1 3 = true ∧ (1 ≤ fs.length ∧ fs.length ≤ 4) ∧ letP o zs.length ∧ lettersP fs zs.length ∧ takenP fs zs.length
instance (zs : List Int) (fs : List (List Int)) (o : List Int) : Decidable (sumP zs fs o) := by unfold sumP; infer_instance
abbrev IS := Nat × List Int × Nat × List (List Int) × Nat × List Int

theorem lettersOk_sound : Sound Try.prog 92 (fnS (ι := IS × Nat × List Int) (fun | ((c, zs, d, fs, e, o), g, ls) => [.agg [.sl c zs.length (zs.map (.int .i64)), .sl d fs.length (fs.map (slI d)), .sl e o.length (o.map (.int .i64))], .sl g ls.length (ls.map (.int .i64))]) (fun | ((_, zs, _), _) => zs.length ≤ 1048576) (fun | ((_, zs, _), _, ls) => .bool (decide (letP ls zs.length)))) := by
  refine sound_of Try.func92 rfl (enters_of Try.func92 (by kernel_rfl) (by kernel_rfl)) ?_
  rintro ⟨⟨c, zs, d, fs, e, o⟩, g, ls⟩ hpre
  have hpre : zs.length ≤ 1048576 := hpre
  have hd := difOk_dec ls zs.length
  conv => whnf
  repeat' (first
    | (refine aIf_t ?_; conv => whnf)
    | (refine aIf_f ?_; conv => whnf)
    | (refine fun (_ : _ ≤ maxLen) => ?_; conv => whnf)
    | (refine aGet_in rfl ?_; conv => whnf)
    | (refine And.intro rfl (And.intro (List.cons_ne_nil _ _) ?_); conv => whnf)
    | (refine callG_t ?_; conv => whnf)
    | (refine differentOk_call (by first | omega | assumption | (refine ⟨?_, ?_⟩ <;> first | assumption | omega) | (refine ⟨?_, ?_, ?_⟩ <;> first | assumption | omega)) ?_; conv => whnf)
    | (refine append_same ?_; conv => whnf)
    | (refine And.intro (pureL_ints _ _) ?_; conv => whnf)
    | refine aIf_eqt ?_
    | (refine aIf_dec (fun _ => ?_) (fun _ => ?_) <;> conv => whnf))
  · exact retS rfl (congrArg AV.bool (by rw [hd]; exact decide_eq_decide.2 ⟨fun h => ⟨by omega, h⟩, fun h => h.2⟩))
  · exact retS rfl (congrArg AV.bool (decide_eq_false (fun h => by have := h.1; omega)).symm)
theorem lettersOk_call {c d e g : Nat} {zs o ls : List Int} {fs : List (List Int)} {env : List AV} {rows : List Row} {ctr low : Nat} {k : AV → St → Prop} (hpre : zs.length ≤ 1048576) (h : k (.bool (decide (letP ls zs.length))) ⟨env, rows, ctr + 1, low⟩) :
    CallB Try.prog 92 ⟨env, rows, ctr, low⟩ [.agg [.sl c zs.length (zs.map (.int .i64)), .sl d fs.length (fs.map (slI d)), .sl e o.length (o.map (.int .i64))], .sl g ls.length (ls.map (.int .i64))] k := callS_in lettersOk_sound ((c, zs, d, fs, e, o), g, ls) hpre rfl h
theorem letterTaken_sound : Sound Try.prog 102 (fnS (ι := Nat × ML × Int) (fun | (d, M, l) => [.sl d M.length (M.map mlC), .int .i64 l]) (fun _ => True) (fun | (_, M, l) => .bool (decide (usedP (M.map Prod.snd) l)))) := by
  refine sound_of Try.func102 rfl (enters_of Try.func102 (by kernel_rfl) (by kernel_rfl)) ?_
  rintro ⟨d, M, l⟩ -
  have hmax : maxLen = 9223372036854775807 := rfl
  conv => whnf
  repeat' (first
    | (refine fun (_ : _ ≤ maxLen) => ?_; conv => whnf)
    | (refine append_same ?_; conv => whnf))
  refine loop_u (ι := Nat) [false, true, false, false, false, false, false, false, false, true, true, true, false, false, false, false, false, false, false, false, false, false, false, false, false, false] (fun k => [(11, .int .i64 k)]) (fun _ => []) (fun k => k ≤ M.length ∧ ¬ usedP ((M.map Prod.snd).take k) l) (fun k => M.length - k) (0) ⟨Nat.zero_le _, by rintro ⟨f, hf, -⟩; simp at hf⟩ ?_ ?_
  · conv => whnf
    repeat' (first
      | exact trivial
      | exact rfl
      | exact pureL_ml _
      | refine And.intro ?_ ?_
      | exact Nat.le_of_ble_eq_true rfl)
  · rintro k ⟨hk, hno⟩
    have hk : k ≤ M.length := hk
    have hno : ¬ usedP ((M.map Prod.snd).take k) l := hno
    by_cases hlt : k < M.length
    · have hlt' : k < (M.map Prod.snd).length := by rw [List.length_map]; exact hlt
      have hs := usedP_succ (l := l) hlt'
      rw [ml_getD] at hs
      conv => whnf
      repeat' (first
        | (refine fun (_ : _ ≤ maxLen) => ?_; conv => whnf)
        | (refine And.intro (by omega) ?_; conv => whnf)
        | (refine append_same ?_; conv => whnf)
        | (refine get_ml_n (by omega) ?_; conv => whnf)
        | (refine aIf_dec (fun _ => ?_) (fun _ => ?_) <;> conv => whnf))
      all_goals (first | (exfalso; omega) | skip)
      refine loop_u (ι := Nat) [false, true, false, false, false, false, false, false, false, true, true, true, false, false, false, true, true, true, false, false, false, false, false, false, false, false] (fun j => [(17, .int .i64 j)]) (fun _ => []) (fun j => j ≤ (M.getD k (0, [])).2.length ∧ ¬ l ∈ (M.getD k (0, [])).2.take j) (fun j => (M.getD k (0, [])).2.length - j) (0) ⟨Nat.zero_le _, by simp⟩ ?_ ?_
      · conv => whnf
        repeat' (first
          | exact trivial
          | exact rfl
          | exact pureL_ints _ _
          | exact pureL_ml _
          | refine And.intro ?_ ?_
          | exact Nat.le_of_ble_eq_true rfl)
      · rintro j ⟨hj, hi⟩
        have hj : j ≤ (M.getD k (0, [])).2.length := hj
        have hi : ¬ l ∈ (M.getD k (0, [])).2.take j := hi
        by_cases hjl : j < (M.getD k (0, [])).2.length
        · have hm := mem_take_succ (z := l) hjl
          conv => whnf
          repeat' (first
            | (refine get_nat (by omega) ?_; conv => whnf)
            | (refine And.intro (by omega) ?_; conv => whnf)
            | (refine append_same ?_; conv => whnf)
            | (refine aIf_dec (fun _ => ?_) (fun _ => ?_) <;> conv => whnf))
          all_goals (first | (exfalso; omega) | skip)
          · rename_i he
            have hu : usedP (M.map Prod.snd) l := ⟨(M.map Prod.snd).getD k [], by
              simp only [List.getD, List.getElem?_eq_getElem hlt', Option.getD_some]
              exact List.getElem_mem _, by rw [ml_getD]; exact List.mem_of_mem_take (hm.2 (.inr he.symm))⟩
            exact retS rfl (congrArg AV.bool (decide_eq_true hu).symm)
          · rename_i he
            refine next_u (j + 1) (show (M.getD k (0, [])).2.length - (j + 1) < (M.getD k (0, [])).2.length - j by omega) ⟨(by omega : j + 1 ≤ (M.getD k (0, [])).2.length), fun h => (hm.1 h).elim hi fun h => he h.symm⟩ ?_
            conv => whnf
            repeat' (first
              | exact trivial
              | exact rfl
              | exact pureL_ints _ _
              | exact pureL_ml _
              | refine And.intro ?_ ?_
              | exact Nat.le_of_ble_eq_true rfl
              | exact int_eq (by rw [IntWalk.i64_in _ (by omega)] <;> omega))
        · have he : j = (M.getD k (0, [])).2.length := by omega
          rw [he, List.take_length] at hi
          conv => whnf
          repeat' (first
            | (refine get_nat (by omega) ?_; conv => whnf)
            | (refine And.intro (by omega) ?_; conv => whnf)
            | (refine append_same ?_; conv => whnf)
            | (refine aIf_dec (fun _ => ?_) (fun _ => ?_) <;> conv => whnf))
          all_goals (first | (exfalso; omega) | skip)
          refine next_u (k + 1) (show M.length - (k + 1) < M.length - k by omega) ⟨(by omega : k + 1 ≤ M.length), fun h => (hs.1 h).elim hno hi⟩ ?_
          conv => whnf
          repeat' (first
            | exact trivial
            | exact rfl
            | exact pureL_ml _
            | refine And.intro ?_ ?_
            | exact Nat.le_of_ble_eq_true rfl
            | exact int_eq (by rw [IntWalk.i64_in _ (by omega)] <;> omega))
    · have he : k = (M.map Prod.snd).length := by rw [List.length_map]; omega
      rw [he, List.take_length] at hno
      rw [List.length_map] at he
      conv => whnf
      repeat' (first
        | (refine fun (_ : _ ≤ maxLen) => ?_; conv => whnf)
        | (refine And.intro (by omega) ?_; conv => whnf)
        | (refine append_same ?_; conv => whnf)
        | (refine get_ml_n (by omega) ?_; conv => whnf)
        | (refine aIf_dec (fun _ => ?_) (fun _ => ?_) <;> conv => whnf))
      all_goals (first | (exfalso; omega) | skip)
      exact retS rfl (congrArg AV.bool (decide_eq_false hno).symm)
theorem letterTaken_callM {d : Nat} {M : ML} {l : Int} {env : List AV} {rows : List Row} {ctr low : Nat} {k : AV → St → Prop} (h : k (.bool (decide (usedP (M.map Prod.snd) l))) ⟨env, rows, ctr + 1, low⟩) :
    CallB Try.prog 102 ⟨env, rows, ctr, low⟩ [.sl d M.length (M.map mlC), .int .i64 l] k := callS_in letterTaken_sound (d, M, l) trivial rfl h
theorem letterTaken_call {d : Nat} {fs : List (List Int)} {l : Int} {env : List AV} {rows : List Row} {ctr low : Nat} {k : AV → St → Prop} (h : k (.bool (decide (usedP fs l))) ⟨env, rows, ctr + 1, low⟩) :
    CallB Try.prog 102 ⟨env, rows, ctr, low⟩ [.sl d fs.length (fs.map (slI d)), .int .i64 l] k := by
  have h' := letterTaken_callM (d := d) (M := fs.map fun f => (d, f)) (l := l) (env := env) (rows := rows) (ctr := ctr) (low := low) (k := k) (by rw [ml_snd]; exact h)
  rw [ml_all, List.length_map] at h'
  exact h'
set_option maxHeartbeats 4000000 in
theorem allLettersTaken_sound : Sound Try.prog 93 (fnS (ι := IS) (fun | (c, zs, d, fs, e, o) => [.agg [.sl c zs.length (zs.map (.int .i64)), .sl d fs.length (fs.map (slI d)), .sl e o.length (o.map (.int .i64))]]) (fun _ => True) (fun | (_, zs, _, fs, _, _) => .bool (decide (takenP fs zs.length)))) := by
  refine sound_of Try.func93 rfl (enters_of Try.func93 (by kernel_rfl) (by kernel_rfl)) ?_
  rintro ⟨c, zs, d, fs, e, o⟩ -
  have hmax : maxLen = 9223372036854775807 := rfl
  conv => whnf
  repeat' (first
    | (refine fun (_ : _ ≤ maxLen) => ?_; conv => whnf)
    | (refine aGet_in rfl ?_; conv => whnf)
    | (refine And.intro rfl (And.intro (List.cons_ne_nil _ _) ?_); conv => whnf)
    | (refine append_same ?_; conv => whnf))
  refine loop_u (ι := Nat) [false, true, false, false, false, false, true, true, false, false, false, false, false, false, false, false] (fun l => [(7, .int .i64 l)]) (fun _ => []) (fun l => l ≤ zs.length ∧ ∀ i : Nat, i < l → usedP fs i) (fun l => zs.length - l) (0) ⟨Nat.zero_le _, fun i hi => absurd hi (Nat.not_lt_zero _)⟩ ?_ ?_
  · conv => whnf
    repeat' (first
      | exact trivial
      | exact rfl
      | exact pureL_ints _ _
      | exact pureL_ii _ _
      | refine Or.inr ?_
      | refine And.intro ?_ ?_
      | exact Nat.le_of_ble_eq_true rfl)
  · rintro l ⟨hl, hall⟩
    have hl : l ≤ zs.length := hl
    have hall : ∀ i : Nat, i < l → usedP fs i := hall
    by_cases hlt : l < zs.length
    · by_cases hu : usedP fs l
      · have hu' : (!decide (usedP fs (l : Int))) = false := by simp [hu]
        conv => whnf
        repeat' (first
          | (refine aGet_in rfl ?_; conv => whnf)
          | (refine callG_t ?_; conv => whnf)
          | (refine append_same ?_; conv => whnf)
          | (refine And.intro (pureL_ii _ _) ?_; conv => whnf)
          | (refine letterTaken_call ?_; conv => whnf)
          | (refine aIf_ff (by assumption) ?_; conv => whnf)
          | (refine aIf_dec (fun _ => ?_) (fun _ => ?_) <;> conv => whnf))
        all_goals (first | (exfalso; omega) | contradiction | skip)
        refine next_u (l + 1) (show zs.length - (l + 1) < zs.length - l by omega) ⟨(by omega : l + 1 ≤ zs.length), fun i hi => ?_⟩ ?_
        · rcases Nat.lt_succ_iff_lt_or_eq.1 hi with h | rfl
          · exact hall i h
          · exact hu
        · conv => whnf
          repeat' (first
            | exact trivial
            | exact rfl
            | exact pureL_ints _ _
            | exact pureL_ii _ _
            | refine Or.inr ?_
            | refine And.intro ?_ ?_
            | exact Nat.le_of_ble_eq_true rfl
            | exact int_eq (by rw [IntWalk.i64_in _ (by omega)] <;> omega))
      · have hu' : (!decide (usedP fs (l : Int))) = true := by simp [hu]
        conv => whnf
        repeat' (first
          | (refine aGet_in rfl ?_; conv => whnf)
          | (refine callG_t ?_; conv => whnf)
          | (refine append_same ?_; conv => whnf)
          | (refine And.intro (pureL_ii _ _) ?_; conv => whnf)
          | (refine letterTaken_call ?_; conv => whnf)
          | (refine aIf_tt (by assumption) ?_; conv => whnf)
          | (refine aIf_dec (fun _ => ?_) (fun _ => ?_) <;> conv => whnf))
        all_goals (first | (exfalso; omega) | contradiction | skip)
        exact retS rfl (congrArg AV.bool (decide_eq_false fun (h : takenP fs zs.length) => hu (h l (by omega))).symm)
    · conv => whnf
      repeat' (first
        | (refine aGet_in rfl ?_; conv => whnf)
        | (refine And.intro (by omega) ?_; conv => whnf)
        | (refine callG_t ?_; conv => whnf)
        | (refine append_same ?_; conv => whnf)
        | (refine letterTaken_call ?_; conv => whnf)
        | refine aIf_not ?_
        | (refine aIf_dec (fun _ => ?_) (fun _ => ?_) <;> conv => whnf))
      all_goals (first | (exfalso; omega) | contradiction | skip)
      have hu : takenP fs zs.length := fun i hi => hall i (by omega)
      exact retS rfl (congrArg AV.bool (decide_eq_true hu).symm)
theorem allLettersTaken_call {c d e : Nat} {zs o : List Int} {fs : List (List Int)} {env : List AV} {rows : List Row} {ctr low : Nat} {k : AV → St → Prop} (hpre : True) (h : k (.bool (decide (takenP fs zs.length))) ⟨env, rows, ctr + 1, low⟩) :
    CallB Try.prog 93 ⟨env, rows, ctr, low⟩ [.agg [.sl c zs.length (zs.map (.int .i64)), .sl d fs.length (fs.map (slI d)), .sl e o.length (o.map (.int .i64))]] k := callS_in allLettersTaken_sound (c, zs, d, fs, e, o) hpre rfl h
def sSumOk : CSpec := fnS (ι := IS) (fun | (c, zs, d, fs, e, o) => [.agg [.sl c zs.length (zs.map (.int .i64)), .sl d fs.length (fs.map (slI d)), .sl e o.length (o.map (.int .i64))]]) (fun _ => True) (fun | (_, zs, _, fs, _, o) => .bool (decide (sumP zs fs o)))
theorem sumP_f {zs o : List Int} {fs : List (List Int)} (h : ¬ sumP zs fs o) : AV.bool false = AV.bool (decide (sumP zs fs o)) := congrArg AV.bool (decide_eq_false h).symm
set_option maxHeartbeats 4000000 in
theorem iSumOk_sound : Sound Try.prog 50 sSumOk := by
  refine sound_of Try.func50 rfl (enters_of Try.func50 (by kernel_rfl) (by kernel_rfl)) ?_
  rintro ⟨c, zs, d, fs, e, o⟩ -
  have hmax : maxLen = 9223372036854775807 := rfl
  by_cases h5 : zs.length ≤ 5
  · have hz : zs.length ≤ 1048576 := by omega
    cases hb : btw zs 1 3 with
    | false =>
      conv => whnf
      repeat' (first
        | (refine aIf_t ?_; conv => whnf)
        | (refine aIf_f ?_; conv => whnf)
        | (refine fun (_ : _ ≤ maxLen) => ?_; conv => whnf)
        | (refine aGet_in rfl ?_; conv => whnf)
        | (refine And.intro rfl (And.intro (List.cons_ne_nil _ _) ?_); conv => whnf)
        | (refine callG_t ?_; conv => whnf)
        | (refine allBetween_call trivial ?_; conv => whnf)
        | (refine append_same ?_; conv => whnf)
        | (refine And.intro (pureL_ints _ _) ?_; conv => whnf)
        | (refine aIf_ff (by assumption) ?_; conv => whnf)
        | refine aIf_eqf ?_
        | refine aIf_not ?_
        | (refine aIf_dec (fun _ => ?_) (fun _ => ?_) <;> conv => whnf))
      all_goals (first | (exfalso; omega) | contradiction | exact retS rfl (sumP_f fun h => by rw [h.2.1] at hb; cases hb))
    | true =>
      by_cases hf : 1 ≤ fs.length ∧ fs.length ≤ 4
      · by_cases ho : letP o zs.length
        · conv => whnf
          repeat' (first
            | (refine aIf_t ?_; conv => whnf)
            | (refine aIf_f ?_; conv => whnf)
            | (refine fun (_ : _ ≤ maxLen) => ?_; conv => whnf)
            | (refine aGet_in rfl ?_; conv => whnf)
            | (refine load_same ?_; conv => whnf)
            | (refine And.intro rfl (And.intro (List.cons_ne_nil _ _) ?_); conv => whnf)
            | (refine And.intro (Nat.le_of_ble_eq_true rfl) ?_; conv => whnf)
            | (refine callG_t ?_; conv => whnf)
            | (refine allBetween_call trivial ?_; conv => whnf)
            | (refine append_same ?_; conv => whnf)
            | (refine And.intro (pureL_ii _ _) ?_; conv => whnf)
            | (refine lettersOk_call (by first | omega | assumption | (refine ⟨?_, ?_⟩ <;> first | assumption | omega) | (refine ⟨?_, ?_, ?_⟩ <;> first | assumption | omega)) ?_; conv => whnf)
            | (refine takeN_in ?_; conv => whnf)
            | (refine And.intro (pureL_ints _ _) ?_; conv => whnf)
            | (refine And.intro (by kernel_rfl) ?_; conv => whnf)
            | (refine aIf_tt (by assumption) ?_; conv => whnf)
            | refine aIf_eqf ?_
            | refine aIf_not ?_
            | (refine aIf_dec (fun _ => ?_) (fun _ => ?_) <;> conv => whnf))
          all_goals (first | (exfalso; omega) | contradiction | skip)
          refine loop_u (ι := Nat) [false, true, false, false, false, false, false, false, false, false, false, false, false, false, false, false, false, false, false, false, false, false, false, false, false, false, false, false, false, false, false, false, false, true, true, true, false, false, false, false, false, false, false, false, false, false] (fun k => [(35, .int .i64 k)]) (fun _ => []) (fun k => k ≤ fs.length ∧ lettersP (fs.take k) zs.length) (fun k => fs.length - k) (0) ⟨Nat.zero_le _, fun f hf => by simp at hf⟩ ?_ ?_
          · conv => whnf
            repeat' (first
              | exact trivial
              | exact rfl
              | exact pureL_ints _ _
              | exact pureL_ii _ _
              | refine Or.inr ?_
              | refine And.intro ?_ ?_
              | exact Nat.le_of_ble_eq_true rfl)
          · rintro k ⟨hk, hall⟩
            have hk : k ≤ fs.length := hk
            have hall : lettersP (fs.take k) zs.length := hall
            by_cases hlt : k < fs.length
            · by_cases hlk : letP (fs.getD k []) zs.length
              · conv => whnf
                repeat' (first
                  | (refine And.intro (by omega) ?_; conv => whnf)
                  | (refine load_same ?_; conv => whnf)
                  | (refine And.intro (Nat.le_of_ble_eq_true rfl) ?_; conv => whnf)
                  | (refine callG_t ?_; conv => whnf)
                  | (refine append_same ?_; conv => whnf)
                  | (refine get_ii_n (by omega) ?_; conv => whnf)
                  | (refine And.intro (pureL_ii _ _) ?_; conv => whnf)
                  | (refine lettersOk_call (by first | omega | assumption | (refine ⟨?_, ?_⟩ <;> first | assumption | omega) | (refine ⟨?_, ?_, ?_⟩ <;> first | assumption | omega)) ?_; conv => whnf)
                  | (refine allLettersTaken_call trivial ?_; conv => whnf)
                  | (refine takeN_in ?_; conv => whnf)
                  | (refine And.intro (pureL_ints _ _) ?_; conv => whnf)
                  | (refine And.intro (by kernel_rfl) ?_; conv => whnf)
                  | refine aIf_not ?_
                  | (refine aIf_dec (fun _ => ?_) (fun _ => ?_) <;> conv => whnf))
                all_goals (first | (exfalso; omega) | contradiction | skip)
                refine next_u (k + 1) (show fs.length - (k + 1) < fs.length - k by omega) ⟨(by omega : k + 1 ≤ fs.length), (lettersP_succ hlt).2 ⟨hall, hlk⟩⟩ ?_
                conv => whnf
                repeat' (first
                  | exact trivial
                  | exact rfl
                  | exact pureL_ints _ _
                  | exact pureL_ii _ _
                  | refine Or.inr ?_
                  | refine And.intro ?_ ?_
                  | exact Nat.le_of_ble_eq_true rfl
                  | exact int_eq (by rw [IntWalk.i64_in _ (by omega)] <;> omega))
              · conv => whnf
                repeat' (first
                  | (refine And.intro (by omega) ?_; conv => whnf)
                  | (refine load_same ?_; conv => whnf)
                  | (refine And.intro (Nat.le_of_ble_eq_true rfl) ?_; conv => whnf)
                  | (refine callG_t ?_; conv => whnf)
                  | (refine append_same ?_; conv => whnf)
                  | (refine get_ii_n (by omega) ?_; conv => whnf)
                  | (refine And.intro (pureL_ii _ _) ?_; conv => whnf)
                  | (refine lettersOk_call (by first | omega | assumption | (refine ⟨?_, ?_⟩ <;> first | assumption | omega) | (refine ⟨?_, ?_, ?_⟩ <;> first | assumption | omega)) ?_; conv => whnf)
                  | (refine allLettersTaken_call trivial ?_; conv => whnf)
                  | (refine takeN_in ?_; conv => whnf)
                  | (refine And.intro (pureL_ints _ _) ?_; conv => whnf)
                  | (refine And.intro (by kernel_rfl) ?_; conv => whnf)
                  | refine aIf_not ?_
                  | (refine aIf_dec (fun _ => ?_) (fun _ => ?_) <;> conv => whnf))
                all_goals (first | (exfalso; omega) | contradiction | skip)
                exact retS rfl (sumP_f fun h => hlk (lettersP_k h.2.2.2.2.1 hlt))
            · have he : k = fs.length := by omega
              rw [he, List.take_length] at hall
              conv => whnf
              repeat' (first
                | (refine And.intro (by omega) ?_; conv => whnf)
                | (refine load_same ?_; conv => whnf)
                | (refine And.intro (Nat.le_of_ble_eq_true rfl) ?_; conv => whnf)
                | (refine callG_t ?_; conv => whnf)
                | (refine append_same ?_; conv => whnf)
                | (refine get_ii_n (by omega) ?_; conv => whnf)
                | (refine And.intro (pureL_ii _ _) ?_; conv => whnf)
                | (refine lettersOk_call (by first | omega | assumption | (refine ⟨?_, ?_⟩ <;> first | assumption | omega) | (refine ⟨?_, ?_, ?_⟩ <;> first | assumption | omega)) ?_; conv => whnf)
                | (refine allLettersTaken_call trivial ?_; conv => whnf)
                | (refine takeN_in ?_; conv => whnf)
                | (refine And.intro (pureL_ints _ _) ?_; conv => whnf)
                | (refine And.intro (by kernel_rfl) ?_; conv => whnf)
                | refine aIf_not ?_
                | (refine aIf_dec (fun _ => ?_) (fun _ => ?_) <;> conv => whnf))
              all_goals (first | (exfalso; omega) | contradiction | skip)
              refine retS rfl (bool_eq ?_)
              simp only [decide_eq_true_eq]
              exact ⟨fun h => ⟨h5, hb, hf, ho, hall, h⟩, fun h => h.2.2.2.2.2⟩
        · conv => whnf
          repeat' (first
            | (refine aIf_t ?_; conv => whnf)
            | (refine aIf_f ?_; conv => whnf)
            | (refine fun (_ : _ ≤ maxLen) => ?_; conv => whnf)
            | (refine aGet_in rfl ?_; conv => whnf)
            | (refine load_same ?_; conv => whnf)
            | (refine And.intro rfl (And.intro (List.cons_ne_nil _ _) ?_); conv => whnf)
            | (refine And.intro (Nat.le_of_ble_eq_true rfl) ?_; conv => whnf)
            | (refine callG_t ?_; conv => whnf)
            | (refine allBetween_call trivial ?_; conv => whnf)
            | (refine append_same ?_; conv => whnf)
            | (refine And.intro (pureL_ii _ _) ?_; conv => whnf)
            | (refine lettersOk_call (by first | omega | assumption | (refine ⟨?_, ?_⟩ <;> first | assumption | omega) | (refine ⟨?_, ?_, ?_⟩ <;> first | assumption | omega)) ?_; conv => whnf)
            | (refine takeN_in ?_; conv => whnf)
            | (refine And.intro (pureL_ints _ _) ?_; conv => whnf)
            | (refine And.intro (by kernel_rfl) ?_; conv => whnf)
            | (refine aIf_tt (by assumption) ?_; conv => whnf)
            | refine aIf_eqf ?_
            | refine aIf_not ?_
            | (refine aIf_dec (fun _ => ?_) (fun _ => ?_) <;> conv => whnf))
          all_goals (first | (exfalso; omega) | contradiction | exact retS rfl (sumP_f fun h => ho h.2.2.2.1))
      · conv => whnf
        repeat' (first
          | (refine aIf_t ?_; conv => whnf)
          | (refine aIf_f ?_; conv => whnf)
          | (refine fun (_ : _ ≤ maxLen) => ?_; conv => whnf)
          | (refine aGet_in rfl ?_; conv => whnf)
          | (refine And.intro (by omega) ?_; conv => whnf)
          | (refine load_same ?_; conv => whnf)
          | (refine And.intro rfl (And.intro (List.cons_ne_nil _ _) ?_); conv => whnf)
          | (refine callG_t ?_; conv => whnf)
          | (refine allBetween_call trivial ?_; conv => whnf)
          | (refine append_same ?_; conv => whnf)
          | (refine lettersOk_call (by first | omega | assumption | (refine ⟨?_, ?_⟩ <;> first | assumption | omega) | (refine ⟨?_, ?_, ?_⟩ <;> first | assumption | omega)) ?_; conv => whnf)
          | (refine takeN_in ?_; conv => whnf)
          | (refine And.intro (pureL_ints _ _) ?_; conv => whnf)
          | (refine aIf_tt (by assumption) ?_; conv => whnf)
          | refine aIf_eqf ?_
          | refine aIf_not ?_
          | (refine aIf_dec (fun _ => ?_) (fun _ => ?_) <;> conv => whnf))
        all_goals (first | (exfalso; omega) | contradiction | exact retS rfl (sumP_f fun h => hf h.2.2.1))
  · conv => whnf
    repeat' (first
      | (refine aIf_t ?_; conv => whnf)
      | (refine aIf_f ?_; conv => whnf)
      | (refine fun (_ : _ ≤ maxLen) => ?_; conv => whnf)
      | (refine aGet_in rfl ?_; conv => whnf)
      | (refine And.intro (by omega) ?_; conv => whnf)
      | (refine load_same ?_; conv => whnf)
      | (refine And.intro rfl (And.intro (List.cons_ne_nil _ _) ?_); conv => whnf)
      | (refine callG_t ?_; conv => whnf)
      | (refine allBetween_call trivial ?_; conv => whnf)
      | (refine append_same ?_; conv => whnf)
      | (refine lettersOk_call (by first | omega | assumption | (refine ⟨?_, ?_⟩ <;> first | assumption | omega) | (refine ⟨?_, ?_, ?_⟩ <;> first | assumption | omega)) ?_; conv => whnf)
      | (refine takeN_in ?_; conv => whnf)
      | refine aIf_eqf ?_
      | refine aIf_not ?_
      | (refine aIf_dec (fun _ => ?_) (fun _ => ?_) <;> conv => whnf)
      | (refine aIf_in (fun _ => ?_) (fun _ => ?_) <;> conv => whnf))
    all_goals (first | (exfalso; omega) | contradiction | exact retS rfl (sumP_f fun h => h5 h.1))
theorem iSumOk_call {c d e : Nat} {zs o : List Int} {fs : List (List Int)} {env : List AV} {rows : List Row} {ctr low : Nat} {k : AV → St → Prop} (hpre : True) (h : k (.bool (decide (sumP zs fs o))) ⟨env, rows, ctr + 1, low⟩) :
    CallB Try.prog 50 ⟨env, rows, ctr, low⟩ [.agg [.sl c zs.length (zs.map (.int .i64)), .sl d fs.length (fs.map (slI d)), .sl e o.length (o.map (.int .i64))]] k := callS_in iSumOk_sound (c, zs, d, fs, e, o) hpre rfl h
end Go.Proofs.Ytmgggbgejdkamaa

/- Chapter 3: what the laws do with lists of lists: copies. -/
namespace Go.Proofs.Ytmgggbgejdkamaa
set_option maxRecDepth 20000
open Go.RowKit Go.Am
attribute [local irreducible] aPlan aGet aIf aLoop aCall RetB NextB CallB CallG aCut aSet aAppend

theorem le_fillF_len {α : Type} {f : α → List AV} {z : Nat} (hz : ∀ x, (f x).length = z) {l : List α} {k : Nat} {us : List AV} (hu : us.length = z) (h : k < l.length) : 0 + (k : Int).toNat * z + z ≤ (fillF f l k us).length := by
  rw [fillF_length hz hu (Nat.le_of_lt h), Nat.zero_add, Int.toNat_natCast, ← Nat.succ_mul]; exact Nat.mul_le_mul_right z h
theorem len_le_tot {xss : List (List Int)} {k : Nat} (h : k < xss.length) : (xss.getD k []).length ≤ tot xss := getD_le_sum _ [] h
theorem len_le_ntot {xss : List Nd} {k : Nat} (h : k < xss.length) : (xss.getD k default).l.length ≤ ntot xss := getD_le_sum (fun n : Nd => n.l.length) default h
theorem len_le_ttot {xss : List T2} {k : Nat} (h : k < xss.length) : (xss.getD k ([], [])).1.length + (xss.getD k ([], [])).2.length ≤ ttot xss := getD_le_sum (fun t : T2 => t.1.length + t.2.length) ([], []) h
set_option maxHeartbeats 4000000 in
theorem toIntSS_sound : Sound Try.prog 19 (fnR (ι := Nat × List (List Int)) 22 1 (fun | (c, xss) => [.sl c xss.length (xss.map (slI c))]) (fun | (_, xss) => xss.length ≤ 1048576 ∧ tot xss ≤ 1048576) (fun | (_, xss) => xss.length) (fun | (_, xss) => xss.map (ownI 3))) := by
  refine sound_of Try.func19 rfl (enters_of Try.func19 (by kernel_rfl) (by kernel_rfl)) ?_
  rintro ⟨c, xss⟩ hpre
  have hpre : xss.length ≤ 1048576 ∧ tot xss ≤ 1048576 := hpre
  conv => whnf
  repeat' (first
    | (refine fun (_ : _ ≤ maxLen) => ?_; conv => whnf)
    | (refine append_same ?_; conv => whnf)
    | (refine And.intro (And.intro (Int.le_refl _) (And.intro (by kernel_rfl) (And.intro rfl (by kernel_rfl)))) (And.intro (And.intro (by omega) (And.intro (bytes_le (b := 24) rfl (by omega)) (by omega))) ?_); conv => whnf))
  refine loop_ut (ι := Nat) [true, false, false, true, true, false, false, false, false, false, false, false, false, false, false, false, false, false, false, false, false, false, false] (fun k => [(4, .int .i64 k)]) (fun k => [(1, fillC (ownI 3) xss k .nil)]) (fun k => k ≤ xss.length) (fun k => xss.length - k) (0) (Nat.zero_le _) ?_ ?_
  · conv => whnf
    refine St.le.to ?_
    conv => whnf
    repeat' (first | exact le_fillC (ownI_pure _) rfl | refine And.intro ?_ ?_)
    repeat' (first
      | exact trivial
      | exact rfl
      | exact Or.inl (And.intro rfl rfl)
      | exact pureL_ii _ _
      | exact Nat.le_of_ble_eq_true rfl)
  · rintro k hk
    have hk : k ≤ xss.length := hk
    have hl : k < xss.length → (xss.getD k []).length ≤ 1048576 := fun h => by have := len_le_tot h; omega
    conv => whnf
    repeat' (first
      | (refine fun (_ : _ ≤ maxLen) => ?_; conv => whnf)
      | (refine And.intro (by omega) ?_; conv => whnf)
      | (refine callG_t ?_; conv => whnf)
      | (refine append_same ?_; conv => whnf)
      | (refine get_ii_n (by omega) ?_; conv => whnf)
      | (refine And.intro rfl (And.intro rfl (And.intro (by rw [fillC_length (by omega)]; omega) ?_)); conv => whnf)
      | (refine set_fillC (by omega) (by omega) ?_; conv => whnf)
      | (refine And.intro (pureL_ints _ _) ?_; conv => whnf)
      | (refine toIntS_call (by omega) ?_; conv => whnf)
      | (refine aIf_dec (fun _ => ?_) (fun _ => ?_) <;> conv => whnf))
    · rename_i hlt
      have hk' : k < xss.length := by omega
      refine next_ut (k + 1) (by omega) (by show k + 1 ≤ _; omega) ?_
      conv => whnf
      refine to_close 1 k 2 3 _ 1 3 _ _ rfl (get_fillC hk') rfl (by decide) (Nat.zero_le _) (by decide) (by simp) ?_
      refine St.le.to ?_
      conv => whnf
      repeat' (first | exact le_closeC [] hk' rfl (ownI_pure _) rfl | refine And.intro ?_ ?_)
      repeat' (first
        | exact trivial
        | exact rfl
        | exact Or.inl (And.intro rfl rfl)
        | exact pureL_ii _ _
        | exact Nat.le_of_ble_eq_true rfl
        | exact int_eq (by rw [IntWalk.i64_in _ (by omega)] <;> omega))
    · have e := fillC_all (f := ownI 3) (l := xss) (k := k) (u := .nil) (by omega)
      rw [e]
      refine retR rfl (protL_oi _ _) ?_ rfl
      simp
theorem toIntSS_call {c : Nat} {xss : List (List Int)} {env : List AV} {rows : List Row} {ctr low : Nat} {k : AV → St → Prop} (hpre : xss.length ≤ 1048576 ∧ tot xss ≤ 1048576) (h : k (.ref rows.length ctr 0 xss.length) ⟨env, rows ++ [⟨ctr, 22, 1, xss.map (ownI 3)⟩], ctr + 1, low⟩) :
    CallB Try.prog 19 ⟨env, rows, ctr, low⟩ [.sl c xss.length (xss.map (slI c))] k := callR_in toIntSS_sound (c, xss) hpre (protL_oi _ _) h

set_option maxHeartbeats 4000000 in
theorem toTensorS_sound : Sound Try.prog 29 (fnR (ι := Nat × List T2) 42 2 (fun | (c, xss) => [.sl c xss.length (xss.flatMap (tnC c))]) (fun | (_, xss) => xss.length ≤ 1048576 ∧ ttot xss ≤ 1048576) (fun | (_, xss) => xss.length) (fun | (_, xss) => xss.flatMap (tnO 3))) := by
  refine sound_of Try.func29 rfl (enters_of Try.func29 (by kernel_rfl) (by kernel_rfl)) ?_
  rintro ⟨c, xss⟩ hpre
  have hpre : xss.length ≤ 1048576 ∧ ttot xss ≤ 1048576 := hpre
  conv => whnf
  repeat' (first
    | (refine fun (_ : _ ≤ maxLen) => ?_; conv => whnf)
    | (refine append_same ?_; conv => whnf)
    | (refine And.intro (And.intro (Int.le_refl _) (And.intro (by kernel_rfl) (And.intro rfl (by kernel_rfl)))) (And.intro (And.intro (by omega) (And.intro (bytes_le (b := 48) rfl (by omega)) (by omega))) ?_); conv => whnf))
  refine loop_ut (ι := Nat) [true, false, false, true, true, false, false, false, false, false, false, false, false, false, false, false, false, false, false, false, false, false, false] (fun k => [(4, .int .i64 k)]) (fun k => [(1, fillF (tnO 3) xss k [.nil, .nil])]) (fun k => k ≤ xss.length) (fun k => xss.length - k) (0) (Nat.zero_le _) ?_ ?_
  · conv => whnf
    refine St.le.to ?_
    conv => whnf
    repeat' (first | exact le_fillF (tnO_pure _) rfl | refine And.intro ?_ ?_)
    repeat' (first
      | exact trivial
      | exact rfl
      | exact Or.inl (And.intro rfl rfl)
      | exact pureL_tn _ _
      | exact Nat.le_of_ble_eq_true rfl)
  · rintro k hk
    have hk : k ≤ xss.length := hk
    have hl : k < xss.length → (xss.getD k ([], [])).1.length + (xss.getD k ([], [])).2.length ≤ 1048576 := fun h => by have := len_le_ttot h; omega
    conv => whnf
    repeat' (first
      | (refine fun (_ : _ ≤ maxLen) => ?_; conv => whnf)
      | (refine And.intro (by omega) ?_; conv => whnf)
      | (refine callG_t ?_; conv => whnf)
      | (refine toTensor_call (by omega) ?_; conv => whnf)
      | (refine append_same ?_; conv => whnf)
      | (refine part_tn_n (by omega) ?_; conv => whnf)
      | (refine And.intro (le_fillF_len (tnO_length _) rfl (by omega)) ?_; conv => whnf)
      | (refine set_fillF (tnO_length _) (by omega) rfl ?_; conv => whnf)
      | (refine And.intro (pureL_ints _ _) ?_; conv => whnf)
      | (refine And.intro (by kernel_rfl) ?_; conv => whnf)
      | (refine aIf_dec (fun _ => ?_) (fun _ => ?_) <;> conv => whnf))
    · rename_i hlt
      have hk' : k < xss.length := by omega
      refine next_ut (k + 1) (by omega) (by show k + 1 ≤ _; omega) ?_
      conv => whnf
      refine to_close 1 (k * 2 + 0) 2 3 _ 1 3 _ _ rfl (get_fillF (tnO_length _) hk' rfl) rfl (by decide) (Nat.zero_le _) (by decide) (by simp) ?_
      refine to_close 1 (k * 2 + 1) 3 3 _ 1 3 _ _ rfl (get_fillF2 (tnO_length _) hk' (by simp) rfl) rfl (by decide) (Nat.zero_le _) (by decide) (by simp) ?_
      refine St.le.to ?_
      conv => whnf
      repeat' (first | exact le_closeF2 (tnO_length _) ([], []) hk' (by simp) (by simp) rfl (tnO_pure _) rfl | refine And.intro ?_ ?_)
      repeat' (first
        | exact trivial
        | exact rfl
        | exact Or.inl (And.intro rfl rfl)
        | exact pureL_tn _ _
        | exact Nat.le_of_ble_eq_true rfl
        | exact int_eq (by rw [IntWalk.i64_in _ (by omega)] <;> omega))
    · have e := fillF_all (f := tnO 3) (l := xss) (k := k) (us := [.nil, .nil]) (by omega)
      rw [e]
      refine retR rfl (protL_otn _ _) ?_ rfl
      simp
theorem toTensorS_call {c : Nat} {xss : List T2} {env : List AV} {rows : List Row} {ctr low : Nat} {k : AV → St → Prop} (hpre : xss.length ≤ 1048576 ∧ ttot xss ≤ 1048576) (h : k (.ref rows.length ctr 0 xss.length) ⟨env, rows ++ [⟨ctr, 42, 2, xss.flatMap (tnO 3)⟩], ctr + 1, low⟩) :
    CallB Try.prog 29 ⟨env, rows, ctr, low⟩ [.sl c xss.length (xss.flatMap (tnC c))] k := callR_in toTensorS_sound (c, xss) hpre (protL_otn _ _) h
end Go.Proofs.Ytmgggbgejdkamaa

/- Chapter 3: what the laws do with lists of lists: marks. -/
namespace Go.Proofs.Ytmgggbgejdkamaa
set_option maxRecDepth 20000
open Go.RowKit Go.Am
attribute [local irreducible] aPlan aGet aIf aLoop aCall RetB NextB CallB CallG aCut aSet aAppend

/-- Lists that hold marks, one behind the other. -/
def marksII (m : Int) : List (List Int) → List (List Int)
  | [] => []
  | xs :: xss => marks m xs.length :: marksII (m + xs.length) xss
theorem marksII_length : ∀ (m : Int) (xss : List (List Int)), (marksII m xss).length = xss.length
  | _, [] => rfl
  | m, xs :: xss => by simp [marksII, marksII_length]
theorem marksII_getD : ∀ (m : Int) (xss : List (List Int)) (k : Nat), k < xss.length → (marksII m xss).getD k [] = marks (m + tot (xss.take k)) (xss.getD k []).length
  | m, xs :: xss, 0, _ => by simp [marksII, tot]
  | m, xs :: xss, k + 1, h => by
    have h' : k < xss.length := by simpa using h
    have := marksII_getD (m + xs.length) xss k h'
    show (marksII (m + xs.length) xss).getD k [] = marks (m + tot (xs :: xss.take k)) (xss.getD k []).length
    rw [this]
    have e : tot (xs :: xss.take k) = xs.length + tot (xss.take k) := by simp [tot]
    rw [e]; congr 1; omega
theorem own_marks (t : TypeId) (m : Int) (n : Nat) : AV.own t 1 n ((marks m n).map (.int .i64)) = ownI t (marks m n) := by unfold ownI; rw [marks_length]
def sMarkII : CSpec := fnMR (ι := List (List Int) × Int) 22 1 (fun x => x.1.length) (fun x => x.1.map (ownI 3)) (fun x => x.2) (fun x => x.1.length ≤ 1048576 ∧ tot x.1 ≤ 1048576 ∧ 0 ≤ x.2 ∧ x.2 ≤ 100000000000) (fun x => x.2 + tot x.1) (fun x => (marksII x.2 x.1).map (ownI 3))
set_option maxHeartbeats 4000000 in
theorem markII_sound : Sound Try.prog 34 sMarkII := by
  refine sound_of Try.func34 rfl (enters_of Try.func34 (by kernel_rfl) (by kernel_rfl)) ?_
  rintro ⟨xss, m⟩ hpre
  have hpre : xss.length ≤ 1048576 ∧ tot xss ≤ 1048576 ∧ 0 ≤ m ∧ m ≤ 100000000000 := hpre
  have hmax : maxLen = 9223372036854775807 := rfl
  conv => whnf
  dsimp only
  repeat' (first
    | (refine append_same ?_; conv => whnf))
  refine loop_u (ι := Nat × List (List Int)) [true, true, false, false, false, true, false, false, false, false, false, false, false, false, false, false, false, false, false] (fun | (k, _) => [(1, .int .i64 (m + tot (xss.take k))), (5, .int .i64 k)]) (fun | (_, L) => [(0, L.map (ownI 3))]) (fun | (k, L) => k ≤ xss.length ∧ L.length = xss.length ∧ (∀ j, j < k → L.getD j [] = (marksII m xss).getD j []) ∧ (∀ j, k ≤ j → L.getD j [] = xss.getD j [])) (fun x => xss.length - x.1) ((0, xss)) ⟨Nat.zero_le _, rfl, fun j hj => absurd hj (Nat.not_lt_zero _), fun _ _ => rfl⟩ ?_ ?_
  · conv => whnf
    repeat' (first | exact Or.inl (And.intro (pureL_oi _ _) rfl) | refine And.intro ?_ ?_)
    repeat' (first
      | exact trivial
      | exact rfl
      | exact Nat.le_of_ble_eq_true rfl
      | exact int_eq (Int.add_zero _).symm)
    all_goals exact int_eq (by simp [tot])
  · rintro ⟨k, L⟩ ⟨hk, hL, h1, h2⟩
    have hk : k ≤ xss.length := hk
    have hL : L.length = xss.length := hL
    have h1 : ∀ j, j < k → L.getD j [] = (marksII m xss).getD j [] := h1
    have h2 : ∀ j, k ≤ j → L.getD j [] = xss.getD j [] := h2
    have ht := sum_take_le List.length xss k
    have ht' : tot (xss.take k) ≤ tot xss := ht
    by_cases hlt : k < xss.length
    · have e2 := h2 k (Nat.le_refl _)
      have hll : (L.getD k []).length = (xss.getD k []).length := by rw [e2]
      have hl := len_le_tot hlt
      have hs := tot_succ hlt
      conv => whnf
      repeat' (first
        | (refine fun (_ : _ ≤ maxLen) => ?_; conv => whnf)
        | (refine And.intro (by omega) ?_; conv => whnf)
        | (refine mark_call rfl (by rfl) (by omega) ?_; conv => whnf)
        | (refine append_same ?_; conv => whnf)
        | (refine get_oi_n (by omega) ?_; conv => whnf)
        | (refine aIf_dec (fun _ => ?_) (fun _ => ?_) <;> conv => whnf))
      all_goals (first | (exfalso; omega) | skip)
      refine next_ut (k + 1, L.set k (marks (m + tot (xss.take k)) (L.getD k []).length)) (show xss.length - (k + 1) < xss.length - k by omega) ⟨(by omega : k + 1 ≤ xss.length), (by rw [List.length_set]; exact hL : (L.set k _).length = xss.length), fun j hj => ?_, fun j hj => ?_⟩ ?_
      · have hj : j < k + 1 := hj
        show (L.set k _).getD j [] = _
        rw [getD_setG (by omega)]
        split
        · rename_i e; rw [← e, marksII_getD m xss k hlt, hll]
        · exact h1 j (by omega)
      · have hj : k + 1 ≤ j := hj
        show (L.set k _).getD j [] = _
        rw [getD_setG (by omega), if_neg (by omega)]
        exact h2 j (by omega)
      · conv => whnf
        refine to_close 0 (0 + (k : Int).toNat * 1) 1 1 _ 1 3 _ _ rfl (get_setC (by omega)) rfl (by decide) (Nat.le_of_ble_eq_true rfl) (by decide) (by simp [marks_length]) ?_
        refine St.le.to ?_
        conv => whnf
        repeat' (first | exact le_setC (by omega) (own_marks _ _ _) (ownI_pure _) | refine And.intro ?_ ?_)
        repeat' (first
          | exact trivial
          | exact rfl
          | exact Nat.le_of_ble_eq_true rfl
          | exact int_eq (by omega)
          | exact int_eq (by rw [IntWalk.i64_in _ (by omega)] <;> omega))
    · have e : k = xss.length := by omega
      have et := tot_all e
      have eL : L = marksII m xss := getD_extG (d := []) (by rw [marksII_length]; exact hL) fun j hj => h1 j (by rw [marksII_length] at hj; omega)
      conv => whnf
      repeat' (first
        | (refine fun (_ : _ ≤ maxLen) => ?_; conv => whnf)
        | (refine And.intro (by omega) ?_; conv => whnf)
        | (refine mark_call rfl (by rfl) (by omega) ?_; conv => whnf)
        | (refine append_same ?_; conv => whnf)
        | (refine get_oi_n (by omega) ?_; conv => whnf)
        | (refine aIf_dec (fun _ => ?_) (fun _ => ?_) <;> conv => whnf))
      all_goals (first | (exfalso; omega) | skip)
      exact retMR (protL_oi _ _) (by rw [et]) (by rw [eL])
theorem markII_call {xss : List (List Int)} {m : Int} {env : List AV} {rows : List Row} {ctr low τ ver n : Nat} {k : AV → St → Prop} (hr : rows[τ]? = some ⟨ver, 22, 1, xss.map (ownI 3)⟩) (hn : n = xss.length) (hpre : xss.length ≤ 1048576 ∧ tot xss ≤ 1048576 ∧ 0 ≤ m ∧ m ≤ 100000000000)
    (hk : k (.int .i64 (m + tot xss)) ⟨env, setRows rows [τ] [(marksII m xss).map (ownI 3)], ctr + 1, low⟩) : CallG Try.prog 34 ⟨env, rows, ctr, low⟩ [.ref τ ver 0 n, .int .i64 m] k :=
  callMR_in markII_sound (xss, m) hpre (protL_oi _ _) (protL_oi _ _) hr hn rfl hk

/-- Nodes whose lists are as long as others'. -/
def likeN (ns L : List Nd) : Prop := L.length = ns.length ∧ ∀ j, (L.getD j default).l.length = (ns.getD j default).l.length
end Go.Proofs.Ytmgggbgejdkamaa
