import Derived.Test.YtjmdhfjemaoebaaGreatM0x30
import Derived.Test.YtjmdhfjemaoebaaGreatM0x14
namespace Go.Am
open Go.RowKit
variable {P : Program}
def fieldsAre (P : Program) (t : TypeId) (l : List (TypeId × Nat)) : Bool :=
  match P.underlying t with
  | some (.struct fs) => fs.toList.map (fun f => (f.type, f.offset)) == l
  | _ => false
theorem fields_ok {t : TypeId} {l : List (TypeId × Nat)} {us : List AV} (hp : fieldsAre P t l = true) (h : CellsOk P t us) : us.length = P.cellsOf t ∧ ∀ p ∈ l, CellsOk P p.1 ((us.drop p.2).take (P.cellsOf p.1)) := by
  unfold fieldsAre at hp
  split at hp
  case h_2 => cases hp
  rename_i fs hu
  have hf : fs.toList.map (fun f => (f.type, f.offset)) = l := by simpa using hp
  cases h with
  | int _ k' n ht hn => rw [hu] at ht; cases ht
  | bool _ b ht => rw [hu] at ht; cases ht
  | str _ s ht hs => rw [hu] at ht; cases ht
  | sl _ e' es ht hz hes => rw [hu] at ht; cases ht
  | struct _ fs' us ht hl hf' =>
    rw [hu] at ht; cases ht
    refine ⟨hl, fun p hp => ?_⟩
    rw [← hf] at hp
    obtain ⟨f, hfm, rfl⟩ := List.mem_map.1 hp
    exact hf' f hfm
theorem cells_int {t : TypeId} {k : IntKind} {us : List AV} (hu : P.underlying t = some (.int k)) (h : CellsOk P t us) : ∃ n : Int, us = [.int k n] ∧ (Lit.int k n).wf = true := by
  cases h with
  | int _ k' n ht hn => rw [hu] at ht; cases ht; exact ⟨n, rfl, hn⟩
  | bool _ b ht => rw [hu] at ht; cases ht
  | str _ s ht hs => rw [hu] at ht; cases ht
  | sl _ e' es ht hz hes => rw [hu] at ht; cases ht
  | struct _ fs us ht hl hf => rw [hu] at ht; cases ht
theorem flat_all {α : Type} {f : α → List AV} {q : α → Prop} : ∀ (es : List (List AV)), (∀ us ∈ es, ∃ x, us = f x ∧ q x) → ∃ l : List α, es.flatten = l.flatMap f ∧ l.length = es.length ∧ ∀ x ∈ l, q x
  | [], _ => ⟨[], rfl, rfl, fun x h => by simp at h⟩
  | us :: es, h => by
    obtain ⟨l, h1, h2, h3⟩ := flat_all es fun u hu => h u (List.mem_cons_of_mem _ hu)
    obtain ⟨x, rfl, hx⟩ := h us List.mem_cons_self
    exact ⟨x :: l, by simp [h1], by simp [h2], fun y hy => by
      rcases List.mem_cons.1 hy with rfl | hy
      · exact hx
      · exact h3 y hy⟩
theorem flat_one {α : Type} (f : α → AV) : ∀ (l : List α), l.flatMap (fun x => [f x]) = l.map f
  | [] => rfl
  | x :: l => by rw [List.flatMap_cons, flat_one f l]; rfl
theorem cells_slice {α : Type} {t e : TypeId} {us : List AV} {f : α → List AV} {q : α → Prop} (hu : P.underlying t = some (.slice e)) (h : CellsOk P t us) (he : ∀ us, CellsOk P e us → ∃ x, us = f x ∧ q x) : ∃ l : List α, us = [.sl 1 l.length (l.flatMap f)] ∧ ∀ x ∈ l, q x := by
  cases h with
  | int _ k' n ht hn => rw [hu] at ht; cases ht
  | bool _ b ht => rw [hu] at ht; cases ht
  | str _ s ht hs => rw [hu] at ht; cases ht
  | sl _ e' es ht hz hes =>
    rw [hu] at ht; cases ht
    obtain ⟨l, h1, h2, h3⟩ := flat_all (f := f) (q := q) es fun us hus => he us (hes us hus)
    exact ⟨l, by rw [h1, h2], h3⟩
  | struct _ fs us ht hl hf => rw [hu] at ht; cases ht
end Go.Am
namespace Go.Proofs.YtjmdhfjemaoebaaGreat
set_option maxRecDepth 20000
open Go.RowKit Go.Am Go.WideShapes Go.ChangeShapes
set_option linter.unusedSimpArgs false
theorem getb_n {bs : List Bool} {k : Nat} {K : AV → Prop} (h : k < bs.length) (hK : K (.bool (bs.getD k false))) : aGet ((bs.map .bool).drop ((k : Int).toNat * 1)) 0 K :=
  ⟨_, by rw [Int.toNat_natCast, Nat.mul_one]; simp [List.getElem?_drop, List.getElem?_eq_getElem h, List.getD], hK⟩
theorem setb_n {bs : List Bool} {k : Nat} {b : Bool} {K : List AV → Prop} (hK : K ((bs.set k b).map .bool)) (h : k < bs.length) : aSet (bs.map .bool) (0 + (k : Int).toNat * 1) [.bool b] K := set_bool (by rw [Int.toNat_natCast]; exact hK) (by omega)
theorem protL_bools (bs : List Bool) : protL (bs.map .bool) = true := scalL_prot (scalL_bools bs)
theorem uIIs : Tryz.prog.underlying 22 = some (.slice 38) := by kernel_rfl
theorem cell_int1 : Tryz.prog.cellsOf 3 = 1 := by kernel_rfl
theorem cell_ints1 : Tryz.prog.cellsOf 38 = 1 := by kernel_rfl
theorem cell_iis1 : Tryz.prog.cellsOf 22 = 1 := by kernel_rfl
theorem append_ll {env : List AV} {rows : List Row} {ctr low τ ver n τ' ver' : Nat} {A : List AV} {u : AV} {k : AV → St → Prop} (hr : rows[τ]? = some ⟨ver, 38, 1, A⟩) (hn : n = A.length) (hr' : rows[τ']? = some ⟨ver', 38, 1, [u]⟩) (hu : u.isOwn = false) (hle : n ≤ 1000) (hlow : low ≤ τ)
    (hk : k (.ref τ ctr 0 (n + 1)) ⟨env, rows.set τ ⟨ctr, 38, 1, A ++ [u]⟩, ctr + 1, low⟩) : aAppend Tryz.prog ⟨env, rows, ctr, low⟩ 22 (.ref τ ver 0 n) (.ref τ' ver' 0 1) k := by
  have hb : (bsz Tryz.prog 38) = some 24 := by kernel_rfl
  have hz : zeroCellsA Tryz.prog 38 = some [.nil] := by kernel_rfl
  have hty : Tryz.prog.underlying 22 = some (.slice 38) := by kernel_rfl
  have hs : ∀ K : Nat → Prop, K 1 → aSz Tryz.prog 38 K := fun K h => by
    have : tsz Tryz.prog 38 = some 1 := by kernel_rfl
    unfold aSz; rw [this]; exact h
  subst hn
  unfold aAppend
  rw [hty]
  simp only
  rw [hz]
  simp only
  refine hs _ ?_
  unfold aElems aRow
  simp only [hr']
  rw [if_pos trivial, if_pos (.inr trivial)]
  refine ⟨⟨by simp, by simp [hu]⟩, ⟨rfl, by rw [hb]; rfl, by rw [hb]; decide⟩, ?_⟩
  simp only [hr]
  rw [if_pos trivial, if_pos (by simp)]
  refine ⟨by simp, fun h => by omega, fun _ h => by exfalso; omega, fun _ _ => ⟨hlow, by rw [hb]; simp only [Option.getD_some]; omega, ?_⟩⟩
  have e : A.take (A.length * 1) = A := List.take_of_length_le (by omega)
  rw [e]
  simpa using hk
theorem append_lr {env : List AV} {rows : List Row} {ctr low τ ver n τ' ver' r : Nat} {A : List AV} {u : AV} {k : AV → St → Prop} (hr : rows[τ]? = some ⟨ver, 38, 1, A ++ List.replicate r .nil⟩) (hn : n = A.length) (hr' : rows[τ']? = some ⟨ver', 38, 1, [u]⟩) (hu : u.isOwn = false) (hle : 1 ≤ r)
    (hk : k (.ref τ ver 0 (n + 1)) ⟨env, rows.set τ ⟨ver, 38, 1, A ++ ([u] ++ List.replicate (r - 1) .nil)⟩, ctr, low⟩) : aAppend Tryz.prog ⟨env, rows, ctr, low⟩ 22 (.ref τ ver 0 n) (.ref τ' ver' 0 1) k := by
  have hb : (bsz Tryz.prog 38) = some 24 := by kernel_rfl
  have hz : zeroCellsA Tryz.prog 38 = some [.nil] := by kernel_rfl
  have hty : Tryz.prog.underlying 22 = some (.slice 38) := by kernel_rfl
  have hs : ∀ K : Nat → Prop, K 1 → aSz Tryz.prog 38 K := fun K h => by
    have : tsz Tryz.prog 38 = some 1 := by kernel_rfl
    unfold aSz; rw [this]; exact h
  subst hn
  unfold aAppend
  rw [hty]
  simp only
  rw [hz]
  simp only
  refine hs _ ?_
  unfold aElems aRow
  simp only [hr']
  rw [if_pos trivial, if_pos (.inr trivial)]
  refine ⟨⟨by simp, by simp [hu]⟩, ⟨rfl, by rw [hb]; rfl, by rw [hb]; decide⟩, ?_⟩
  simp only [hr]
  rw [if_pos trivial, if_pos (by simp)]
  refine ⟨by simp, fun h => by omega, fun _ _ => ?_, fun _ h => ?_⟩
  · have e1 : (A ++ List.replicate r AV.nil).take (A.length * 1) = A := by rw [Nat.mul_one]; exact List.take_left
    have e2 : (A ++ List.replicate r AV.nil).drop (A.length * 1 + [u].length) = List.replicate (r - 1) AV.nil := by
      rw [Nat.mul_one, ← List.drop_drop, List.drop_left, List.drop_replicate]; rfl
    simp only [Nat.zero_mul, List.drop_zero, Nat.one_mul, List.take_of_length_le (show [u].length ≤ 1 from Nat.le_refl _)]
    rw [e1, e2]
    simpa [St.setRow, Row.putC] using hk
  · exfalso; simp at h; omega
end Go.Proofs.YtjmdhfjemaoebaaGreat
namespace Go.Proofs.YtjmdhfjemaoebaaGreat
set_option maxRecDepth 20000
open Go.RowKit Go.Am
set_option linter.unusedSimpArgs false
theorem kL_ok {x : Nd} {k : Nat} {ss ins : List (List Int)} (hf : formP x k ins.length) (hl : ss.length = k) (hss : allOk ss) (hins : allOk ins) (hk : kOk x ss) : shapeOk (kL x ss ins) = true := by
  obtain ⟨f1, f2, f3, f4, f5, f6, f7⟩ := hf
  by_cases o0 : x.op = 0
  · have : kL x ss ins = ins.getD x.a.toNat [] := by simp [kL, o0]
    rw [this]; exact hins _ (by omega)
  · by_cases o1 : x.op = 1
    · have : kL x ss ins = [] := by simp [kL, o1]
      rw [this]; rfl
    · have hA : shapeOk (shA x ss) = true := hss _ (by omega)
      by_cases h2 : x.op ≤ 5 ∨ 11 ≤ x.op
      · have hB : shapeOk (shB x ss) = true := hss _ (by omega)
        exact ((com_z (ins := ins) ⟨by omega, f1.2⟩ hA hB (fun _ => rfl)).b hk).2.2
      · exact ((com_z (ins := ins) ⟨by omega, f1.2⟩ hA hA (fun h => absurd h h2)).b hk).2.2
def nodeP (ins : List (List Int)) (ns : List Nd) (ss : List (List Int)) (k : Nat) : Prop := formP (ns.getD k default) k ins.length ∧ kOk (ns.getD k default) ss
instance (ins : List (List Int)) (ns : List Nd) (ss : List (List Int)) (k : Nat) : Decidable (nodeP ins ns ss k) := by unfold nodeP; infer_instance
def shTo (ins : List (List Int)) (ns : List Nd) : Nat → Option (List (List Int))
  | 0 => some []
  | k + 1 => (shTo ins ns k).bind fun ss => if nodeP ins ns ss k then some (ss ++ [kL (ns.getD k default) ss ins]) else none
theorem shTo_t {ins : List (List Int)} {ns : List Nd} {k : Nat} {ss : List (List Int)} (h : shTo ins ns k = some ss) (hp : nodeP ins ns ss k) : shTo ins ns (k + 1) = some (ss ++ [kL (ns.getD k default) ss ins]) := by
  rw [shTo, h]; exact if_pos hp
theorem shTo_f {ins : List (List Int)} {ns : List Nd} {k : Nat} {ss : List (List Int)} (h : shTo ins ns k = some ss) (hp : ¬ nodeP ins ns ss k) : shTo ins ns (k + 1) = none := by
  rw [shTo, h]; exact if_neg hp
theorem shTo_none {ins : List (List Int)} {ns : List Nd} {k : Nat} (h : shTo ins ns k = none) : ∀ n, k ≤ n → shTo ins ns n = none
  | 0, hk => by
    have : k = 0 := by omega
    rw [← this]; exact h
  | n + 1, hk => by
    by_cases e : k = n + 1
    · rw [← e]; exact h
    · rw [shTo, shTo_none h n (by omega)]; rfl
theorem shTo_len {ins : List (List Int)} {ns : List Nd} : ∀ {k : Nat} {ss : List (List Int)}, shTo ins ns k = some ss → ss.length = k
  | 0, ss, h => by cases h; rfl
  | k + 1, ss, h => by
    rw [shTo] at h
    cases e : shTo ins ns k with
    | none => rw [e] at h; cases h
    | some s =>
      rw [e] at h
      have h : (if nodeP ins ns s k then some (s ++ [kL (ns.getD k default) s ins]) else none) = some ss := h
      split at h
      · cases h; rw [List.length_append, shTo_len e]; rfl
      · cases h
theorem shTo_ok {ins : List (List Int)} {ns : List Nd} (hins : allOk ins) : ∀ {k : Nat} {ss : List (List Int)}, shTo ins ns k = some ss → allOk ss
  | 0, ss, h => by cases h; intro j hj; simp at hj
  | k + 1, ss, h => by
    rw [shTo] at h
    cases e : shTo ins ns k with
    | none => rw [e] at h; cases h
    | some s =>
      rw [e] at h
      have h : (if nodeP ins ns s k then some (s ++ [kL (ns.getD k default) s ins]) else none) = some ss := h
      split at h
      · rename_i hp
        cases h
        have ih := shTo_ok hins e
        have hl := shTo_len e
        intro j hj
        rw [List.length_append] at hj
        by_cases hjk : j < s.length
        · have : (s ++ [kL (ns.getD k default) s ins]).getD j [] = s.getD j [] := by simp [List.getD, List.getElem?_append_left hjk]
          rw [this]; exact ih j hjk
        · have hjk' : j = s.length := by simp at hj; omega
          have : (s ++ [kL (ns.getD k default) s ins]).getD j [] = kL (ns.getD k default) s ins := by rw [hjk']; simp [List.getD]
          rw [this]; exact kL_ok hp.1 hl ih hins hp.2
      · cases h
abbrev LB := List (List Int) × Bool
def shM (ins : List (List Int)) (ns : List Nd) : LB :=
  if insOk ins ∧ 1 ≤ ns.length ∧ ns.length ≤ 12 then (match shTo ins ns ns.length with | some ss => (ss, true) | none => ([], false)) else ([], false)
theorem shM_t {ins : List (List Int)} {ns : List Nd} {ss : List (List Int)} (h : insOk ins ∧ 1 ≤ ns.length ∧ ns.length ≤ 12) (hs : shTo ins ns ns.length = some ss) : shM ins ns = (ss, true) := by unfold shM; rw [if_pos h, hs]
theorem shM_n {ins : List (List Int)} {ns : List Nd} (hs : shTo ins ns ns.length = none) : shM ins ns = ([], false) := by unfold shM; rw [hs]; split <;> rfl
theorem shM_f {ins : List (List Int)} {ns : List Nd} (h : ¬ (insOk ins ∧ 1 ≤ ns.length ∧ ns.length ≤ 12)) : shM ins ns = ([], false) := if_neg h
def eP (ns : List Nd) : Prop := ∀ j, j < ns.length → (ns.getD j default).l.length ≤ 1048576 ∧ wfL (ns.getD j default).l
end Go.Proofs.YtjmdhfjemaoebaaGreat
namespace Go.Proofs.YtjmdhfjemaoebaaGreat
set_option maxRecDepth 20000
open Go.RowKit Go.Am
set_option linter.unusedSimpArgs false
attribute [local irreducible] aPlan aGet aIf aLoop aCall RetB NextB CallB CallG aCut aSet aAppend
theorem kL_0 {x : Nd} {ss ins : List (List Int)} (h : x.op = 0) : kL x ss ins = ins.getD x.a.toNat [] := by simp [kL, h]
theorem kL_1 {x : Nd} {ss ins : List (List Int)} (h : x.op = 1) : kL x ss ins = [] := by simp [kL, h]
def naL (xss : List (List Int)) (ns : List Nd) (ss : List (List Int)) (k : Nat) : List Int := if nodeP xss ns ss k then kL (ns.getD k default) ss xss else []
def sShapeAt : CSpec := fnLB (ι := Nat × List (List Int) × List Nd × Nat × Nat × List (List Int)) 3 (fun | (c, xss, ns, k, d, ss) => [.agg [.sl c xss.length (xss.map (slI c)), .sl c ns.length (ns.flatMap (ndC c))], .int .i64 k, .sl d ss.length (ss.map (slI d))]) (fun | (_, xss, ns, k, _, ss) => k < ns.length ∧ ss.length = k ∧ allOk ss ∧ allOk xss ∧ eP ns) (fun | (_, xss, ns, k, _, ss) => naL xss ns ss k) (fun | (_, xss, ns, k, _, ss) => decide (nodeP xss ns ss k))
set_option maxHeartbeats 8000000 in
theorem shapeAt_sound : Sound Tryz.prog 130 sShapeAt := by
  refine sound_of Tryz.func130 rfl (enters_of Tryz.func130 (by kernel_rfl) (by kernel_rfl)) ?_
  rintro ⟨c, xss, ns, k, d, ss⟩ hpre
  have hpre : k < ns.length ∧ ss.length = k ∧ allOk ss ∧ allOk xss ∧ eP ns := hpre
  obtain ⟨hk, hl, hss, hins, hE⟩ := hpre
  obtain ⟨hxl, hwf⟩ := hE k hk
  have hmax : maxLen = 9223372036854775807 := rfl
  by_cases hf : formP (ns.getD k default) k xss.length
  · have hf' := hf
    obtain ⟨f1, f2, f3, f4, f5, f6, f7⟩ := hf'
    by_cases o0 : (ns.getD k default).op = 0
    · have hI := hins (ns.getD k default).a.toNat (by omega)
      have hI3 := ((shapeOk_iff _).1 hI).1
      have hP : nodeP xss ns ss k := ⟨hf, .inl (by omega)⟩
      have h1 : naL xss ns ss k = xss.getD (ns.getD k default).a.toNat [] := by unfold naL; rw [if_pos hP, kL_0 o0]
      conv => whnf
      repeat' (first
        | (refine tree_in (id := 9) (.one 0 (.one 1 (.one 2 (.one 3 (.one 4 (.one 5 (.one 7 (.one 8 (.one 9 (.one 10 (.one 11 (.two 6 17 (.two 12 17 (.two 13 17 (.one 14 (.one 15 (.one 16 (.one 17 (.one 18 (.one 19 .nil)))))) (.one 13 (.one 14 (.one 15 (.one 16 (.one 18 (.one 19 .nil))))))) (.one 12 (.one 13 (.one 14 (.one 15 (.one 16 (.one 18 (.one 19 .nil)))))))) (.one 6 (.one 12 (.one 13 (.one 14 (.one 15 (.one 16 (.one 18 (.one 19 .nil)))))))))))))))))))) (by kernel_rfl) (by kernel_rfl) ?_; conv => whnf) | (refine fork_in ?_ ?_ <;> conv => whnf) | ((first | refine aGet_in rfl ?_ | refine And.intro (by omega) ?_ | refine load_same ?_ | refine And.intro rfl (And.intro (List.cons_ne_nil _ _) ?_) | refine And.intro (Nat.le_of_ble_eq_true rfl) ?_ | refine callG_t ?_ | refine copyNums_call (by omega) ?_ | refine append_same ?_ | refine get_ii_n (by omega) ?_ | refine get_ii (by omega) ?_ | refine part_nd_n (by omega) ?_ | refine And.intro (pureL_ii _ _) ?_ | refine And.intro (pureL_nd _ _) ?_); conv => whnf) | (refine nodeOk_call (by first | omega | assumption | (refine ⟨?_, ?_⟩ <;> first | assumption | omega) | (refine ⟨?_, ?_, ?_⟩ <;> first | assumption | omega)) ?_; conv => whnf) | ((first | refine takeN_in ?_ | refine And.intro (pureL_ints _ _) ?_ | refine set_force ?_ | refine And.intro (by kernel_rfl) ?_); conv => whnf) | refine aIf_not ?_
        | (refine aIf_dec (fun _ => ?_) (fun _ => ?_) <;> conv => whnf))
      all_goals (first | (exfalso; omega) | (exfalso; exact absurd hf (by assumption)) | skip)
      exact retLBM h1 (decide_eq_true hP) rfl rfl
    · by_cases o1 : (ns.getD k default).op = 1
      · have hP : nodeP xss ns ss k := ⟨hf, .inl (by omega)⟩
        have h1 : naL xss ns ss k = [] := by unfold naL; rw [if_pos hP, kL_1 o1]
        conv => whnf
        repeat' (first
          | (refine tree_in (id := 9) (.one 0 (.one 1 (.one 2 (.one 3 (.one 4 (.one 5 (.one 7 (.one 8 (.one 9 (.one 10 (.one 11 (.two 6 17 (.two 12 17 (.two 13 17 (.one 14 (.one 15 (.one 16 (.one 17 (.one 18 (.one 19 .nil)))))) (.one 13 (.one 14 (.one 15 (.one 16 (.one 18 (.one 19 .nil))))))) (.one 12 (.one 13 (.one 14 (.one 15 (.one 16 (.one 18 (.one 19 .nil)))))))) (.one 6 (.one 12 (.one 13 (.one 14 (.one 15 (.one 16 (.one 18 (.one 19 .nil)))))))))))))))))))) (by kernel_rfl) (by kernel_rfl) ?_; conv => whnf) | (refine fork_in ?_ ?_ <;> conv => whnf) | ((first | refine aGet_in rfl ?_ | refine And.intro (by omega) ?_ | refine load_same ?_ | refine And.intro rfl (And.intro (List.cons_ne_nil _ _) ?_) | refine And.intro (Nat.le_of_ble_eq_true rfl) ?_ | refine callG_t ?_ | refine copyNums_call (by omega) ?_ | refine append_same ?_ | refine get_ii_n (by omega) ?_ | refine part_nd_n (by omega) ?_ | refine And.intro (pureL_ii _ _) ?_ | refine And.intro (pureL_nd _ _) ?_); conv => whnf) | (refine nodeOk_call (by first | omega | assumption | (refine ⟨?_, ?_⟩ <;> first | assumption | omega) | (refine ⟨?_, ?_, ?_⟩ <;> first | assumption | omega)) ?_; conv => whnf) | ((first | refine takeN_in ?_ | refine set_force ?_ | refine And.intro (by kernel_rfl) ?_); conv => whnf) | refine aIf_not ?_
          | (refine aIf_dec (fun _ => ?_) (fun _ => ?_) <;> conv => whnf))
        all_goals (first | (exfalso; omega) | (exfalso; exact absurd hf (by assumption)) | skip)
        exact retLBM h1 (decide_eq_true hP) rfl rfl
      · have hA : shapeOk (ss.getD (ns.getD k default).a.toNat []) = true := hss _ (by omega)
        have hA3 := ((shapeOk_iff _).1 hA).1
        have hB : shapeOk (ss.getD (ns.getD k default).b.toNat []) = true := hss _ (by omega)
        have hZ := com_z (x := ns.getD k default) (ss := ss) (ins := xss) (B := ss.getD (ns.getD k default).b.toNat []) ⟨by omega, f1.2⟩ hA hB (fun _ => rfl)
        have h1 : naL xss ns ss k = (comM (ns.getD k default) (ss.getD (ns.getD k default).a.toNat []) (zsOf (ss.getD (ns.getD k default).a.toNat [])) (ss.getD (ns.getD k default).b.toNat []) (zsOf (ss.getD (ns.getD k default).b.toNat []))).1 := by
          by_cases hk : kOk (ns.getD k default) ss
          · rw [(hZ.b hk).2.1]; exact if_pos ⟨hf, hk⟩
          · rw [(hZ.n hk).2]; exact if_neg fun h => hk h.2
        have h2 : decide (nodeP xss ns ss k) = (comM (ns.getD k default) (ss.getD (ns.getD k default).a.toNat []) (zsOf (ss.getD (ns.getD k default).a.toNat [])) (ss.getD (ns.getD k default).b.toNat []) (zsOf (ss.getD (ns.getD k default).b.toNat []))).2.2 := by
          by_cases hk : kOk (ns.getD k default) ss
          · rw [(hZ.b hk).1]; exact decide_eq_true ⟨hf, hk⟩
          · rw [(hZ.n hk).1]; exact decide_eq_false fun h => hk h.2
        conv => whnf
        repeat' (first
          | (refine tree_in (id := 9) (.one 0 (.one 1 (.one 2 (.one 3 (.one 4 (.one 5 (.one 7 (.one 8 (.one 9 (.one 10 (.one 11 (.two 6 17 (.two 12 17 (.two 13 17 (.one 14 (.one 15 (.one 16 (.one 17 (.one 18 (.one 19 .nil)))))) (.one 13 (.one 14 (.one 15 (.one 16 (.one 18 (.one 19 .nil))))))) (.one 12 (.one 13 (.one 14 (.one 15 (.one 16 (.one 18 (.one 19 .nil)))))))) (.one 6 (.one 12 (.one 13 (.one 14 (.one 15 (.one 16 (.one 18 (.one 19 .nil)))))))))))))))))))) (by kernel_rfl) (by kernel_rfl) ?_; conv => whnf) | (refine fork_in ?_ ?_ <;> conv => whnf) | ((first | refine aGet_in rfl ?_ | refine And.intro (by omega) ?_ | refine load_same ?_ | refine And.intro rfl (And.intro (List.cons_ne_nil _ _) ?_) | refine And.intro (Nat.le_of_ble_eq_true rfl) ?_ | refine callG_t ?_ | refine copyNums_call (by omega) ?_ | refine append_same ?_ | refine get_ii_n (by omega) ?_ | refine get_ii (by omega) ?_ | refine part_nd_n (by omega) ?_ | refine And.intro (pureL_ii _ _) ?_ | refine And.intro (pureL_nd _ _) ?_ | refine noughtsOf_call (by assumption) ?_); conv => whnf) | (refine comesOf_call (by refine ⟨?_, ?_, ?_, ?_⟩ <;> first | assumption | omega) ?_; conv => whnf) | (refine nodeOk_call (by first | omega | assumption | (refine ⟨?_, ?_⟩ <;> first | assumption | omega) | (refine ⟨?_, ?_, ?_⟩ <;> first | assumption | omega)) ?_; conv => whnf) | ((first | refine takeN_in ?_ | refine And.intro (pureL_ints _ _) ?_ | refine cut_ints ?_ | refine set_force ?_ | refine And.intro (by kernel_rfl) ?_); conv => whnf) | refine aIf_not ?_
          | (refine aIf_dec (fun _ => ?_) (fun _ => ?_) <;> conv => whnf))
        all_goals (first | (exfalso; omega) | (exfalso; exact absurd hf (by assumption)) | skip)
        all_goals exact retLBM h1 h2 rfl rfl
  · have hP : ¬ nodeP xss ns ss k := fun h => hf h.1
    conv => whnf
    repeat' (first
      | ((first | refine tree_in (id := 9) (.one 0 (.one 1 (.one 2 (.one 3 (.one 4 (.one 5 (.one 7 (.one 8 (.one 9 (.one 10 (.one 11 (.two 6 17 (.two 12 17 (.two 13 17 (.one 14 (.one 15 (.one 16 (.one 17 (.one 18 (.one 19 .nil)))))) (.one 13 (.one 14 (.one 15 (.one 16 (.one 18 (.one 19 .nil))))))) (.one 12 (.one 13 (.one 14 (.one 15 (.one 16 (.one 18 (.one 19 .nil)))))))) (.one 6 (.one 12 (.one 13 (.one 14 (.one 15 (.one 16 (.one 18 (.one 19 .nil)))))))))))))))))))) (by kernel_rfl) (by kernel_rfl) ?_ | refine aGet_in rfl ?_ | refine And.intro (by omega) ?_ | refine load_same ?_ | refine And.intro rfl (And.intro (List.cons_ne_nil _ _) ?_) | refine And.intro (Nat.le_of_ble_eq_true rfl) ?_ | refine callG_t ?_ | refine append_same ?_ | refine part_nd_n (by omega) ?_ | refine And.intro (pureL_ii _ _) ?_ | refine And.intro (pureL_nd _ _) ?_); conv => whnf) | (refine nodeOk_call (by first | omega | assumption | (refine ⟨?_, ?_⟩ <;> first | assumption | omega) | (refine ⟨?_, ?_, ?_⟩ <;> first | assumption | omega)) ?_; conv => whnf) | ((first | refine takeN_in ?_ | refine set_force ?_ | refine And.intro (by kernel_rfl) ?_); conv => whnf) | refine aIf_not ?_
      | (refine aIf_dec (fun _ => ?_) (fun _ => ?_) <;> conv => whnf))
    all_goals (first | (exfalso; exact absurd (by assumption) hf) | skip)
    exact retLBM (if_neg hP) (decide_eq_false hP) rfl rfl
theorem shapeAt_call {c j d : Nat} {xss ss : List (List Int)} {ns : List Nd} {env : List AV} {rows : List Row} {ctr low : Nat} {k : AV → St → Prop} (hpre : j < ns.length ∧ ss.length = j ∧ allOk ss ∧ allOk xss ∧ eP ns) (h : k (.tup [.ref rows.length ctr 0 (naL xss ns ss j).length, .bool (decide (nodeP xss ns ss j))]) ⟨env, rows ++ [⟨ctr, 3, 1, (naL xss ns ss j).map (.int .i64)⟩], ctr + 1, low⟩) :
    CallB Tryz.prog 130 ⟨env, rows, ctr, low⟩ [.agg [.sl c xss.length (xss.map (slI c)), .sl c ns.length (ns.flatMap (ndC c))], .int .i64 j, .sl d ss.length (ss.map (slI d))] k := callLB_in shapeAt_sound (c, xss, ns, j, d, ss) hpre h
end Go.Proofs.YtjmdhfjemaoebaaGreat
namespace Go.Proofs.YtjmdhfjemaoebaaGreat
set_option maxRecDepth 20000
open Go.RowKit Go.Am
set_option linter.unusedSimpArgs false
attribute [local irreducible] aPlan aGet aIf aLoop aCall RetB NextB CallB CallG aCut aSet aAppend
abbrev l3P (p : Int → Prop) : CSpec := fnLB (ι := Nat × Nd × Nat × List (List Int) × Nat × List (List Int)) 3 (fun | (c, x, d, ss, e, ins) => [.agg [.int .i64 x.op, .int .i64 x.a, .int .i64 x.b, .sl c x.l.length (x.l.map (.int .i64))], .sl d ss.length (ss.map (slI d)), .sl e ins.length (ins.map (slI e))]) (fun | (_, x, _, ss, _, ins) => (formP x ss.length ins.length ∧ allOk ss ∧ allOk ins ∧ x.l.length ≤ 1048576) ∧ p x.op) (fun | (_, x, _, ss, _, ins) => spL x ss ins) (fun | (_, x, _, ss, _, _) => decide (kOk x ss))
set_option maxHeartbeats 8000000 in
theorem l3Shape_0 : Sound Tryz.prog 96 (l3P (fun op => op = 0)) := by
  refine sound_of Tryz.func96 rfl (enters_of Tryz.func96 (by kernel_rfl) (by kernel_rfl)) ?_
  rintro ⟨c, x, d, ss, e, ins⟩ hpre
  have hpre : (formP x ss.length ins.length ∧ allOk ss ∧ allOk ins ∧ x.l.length ≤ 1048576) ∧ (fun op : Int => op = 0) x.op := hpre
  obtain ⟨⟨⟨f1, f2, f3, f4, f5, f6, f7⟩, hss, hins, hxl⟩, hop⟩ := hpre
  have hop : (fun op : Int => op = 0) x.op := hop
  dsimp only at hop
  unfold lsP at f2
  have hmax : maxLen = 9223372036854775807 := rfl
  have t0 : Int.toNat 0 = 0 := rfl
  have t1 : Int.toNat 1 = 1 := rfl
  have t2 : Int.toNat 2 = 2 := rfl
  have hI := hins x.a.toNat (by omega)
  have hI3 := ((shapeOk_iff _).1 hI).1
  conv => whnf
  repeat' (first
    | ((first | refine plan_in (id := 17) [0, 1, 3, 4, 6, 2, 5, 7, 8, 9, 10] (by kernel_rfl) (by kernel_rfl) ?_ | refine plan_in (id := 23) [0, 1, 2, 3, 4, 5, 6, 7, 8, 9, 10, 11, 12, 13, 14, 15, 16] (by kernel_rfl) (by kernel_rfl) ?_ | refine plan_in (id := 25) [0, 1, 2, 3, 4, 5, 6, 7, 8] (by kernel_rfl) (by kernel_rfl) ?_ | refine aIf_t ?_ | refine aIf_f ?_ | refine fun (_ : _ ≤ maxLen) => ?_ | refine get_nat (by omega) ?_ | refine aGet_in rfl ?_ | refine And.intro (by omega) ?_ | refine And.intro rfl (And.intro (List.cons_ne_nil _ _) ?_) | refine callG_t ?_ | refine l2Nums_call (by omega) ?_ | refine append_same ?_ | refine get_ii_n (by omega) ?_ | refine get_ii (by omega) ?_); conv => whnf) | (refine l3CutShape_call (by first | omega | assumption | (refine ⟨?_, ?_⟩ <;> first | assumption | omega) | (refine ⟨?_, ?_, ?_⟩ <;> first | assumption | omega)) ?_; conv => whnf) | (refine l2Without_calli (by omega) ?_; conv => whnf) | (refine l2BesideShape_call (by first | omega | assumption | (refine ⟨?_, ?_⟩ <;> first | assumption | omega) | (refine ⟨?_, ?_, ?_⟩ <;> first | assumption | omega)) ?_; conv => whnf) | ((first | refine And.intro (pureL_ints _ _) ?_ | refine in_call ?_ | refine l1Count_call ?_ | refine sCountOf_call ?_ | refine sTurnShape_call (by omega) ?_); conv => whnf) | refine aIf_eqf ?_
    | refine aIf_not ?_ | (refine aIf_dec (fun _ => ?_) (fun _ => ?_) <;> conv => whnf))
  all_goals (first | (exfalso; omega) | skip)
  all_goals exact retLBM (zs := ins.getD x.a.toNat []) (by simp [spL, kL, hop]) (decide_eq_true (.inl (by omega))) rfl rfl
set_option maxHeartbeats 8000000 in
theorem l3Shape_1 : Sound Tryz.prog 96 (l3P (fun op => op = 1)) := by
  refine sound_of Tryz.func96 rfl (enters_of Tryz.func96 (by kernel_rfl) (by kernel_rfl)) ?_
  rintro ⟨c, x, d, ss, e, ins⟩ hpre
  have hpre : (formP x ss.length ins.length ∧ allOk ss ∧ allOk ins ∧ x.l.length ≤ 1048576) ∧ (fun op : Int => op = 1) x.op := hpre
  obtain ⟨⟨⟨f1, f2, f3, f4, f5, f6, f7⟩, hss, hins, hxl⟩, hop⟩ := hpre
  have hop : (fun op : Int => op = 1) x.op := hop
  dsimp only at hop
  unfold lsP at f2
  have hmax : maxLen = 9223372036854775807 := rfl
  have t0 : Int.toNat 0 = 0 := rfl
  have t1 : Int.toNat 1 = 1 := rfl
  have t2 : Int.toNat 2 = 2 := rfl
  conv => whnf
  repeat' (first
    | ((first | refine plan_in (id := 17) [0, 1, 3, 4, 6, 2, 5, 7, 8, 9, 10] (by kernel_rfl) (by kernel_rfl) ?_ | refine plan_in (id := 23) [0, 1, 2, 3, 4, 5, 6, 7, 8, 9, 10, 11, 12, 13, 14, 15, 16] (by kernel_rfl) (by kernel_rfl) ?_ | refine plan_in (id := 25) [0, 1, 2, 3, 4, 5, 6, 7, 8] (by kernel_rfl) (by kernel_rfl) ?_ | refine aIf_t ?_ | refine aIf_f ?_ | refine fun (_ : _ ≤ maxLen) => ?_ | refine get_nat (by omega) ?_ | refine aGet_in rfl ?_ | refine And.intro (by omega) ?_ | refine And.intro rfl (And.intro (List.cons_ne_nil _ _) ?_) | refine callG_t ?_ | refine l2Nums_call (by omega) ?_ | refine append_same ?_ | refine get_ii_n (by omega) ?_); conv => whnf) | (refine l3CutShape_call (by first | omega | assumption | (refine ⟨?_, ?_⟩ <;> first | assumption | omega) | (refine ⟨?_, ?_, ?_⟩ <;> first | assumption | omega)) ?_; conv => whnf) | (refine l2Without_calli (by omega) ?_; conv => whnf) | (refine l2BesideShape_call (by first | omega | assumption | (refine ⟨?_, ?_⟩ <;> first | assumption | omega) | (refine ⟨?_, ?_, ?_⟩ <;> first | assumption | omega)) ?_; conv => whnf) | ((first | refine in_call ?_ | refine l1Count_call ?_ | refine sCountOf_call ?_ | refine sTurnShape_call (by omega) ?_ | refine And.intro (And.intro (by kernel_rfl) (And.intro rfl (Nat.le_of_ble_eq_true rfl))) ?_); conv => whnf) | refine aIf_eqf ?_
    | refine aIf_not ?_ | (refine aIf_dec (fun _ => ?_) (fun _ => ?_) <;> conv => whnf))
  all_goals (first | (exfalso; omega) | skip)
  all_goals exact retLBM (zs := []) (by simp [spL, kL, hop]) (decide_eq_true (.inl (by omega))) rfl rfl
set_option maxHeartbeats 8000000 in
theorem l3Shape_6 : Sound Tryz.prog 96 (l3P (fun op => op = 6)) := by
  refine sound_of Tryz.func96 rfl (enters_of Tryz.func96 (by kernel_rfl) (by kernel_rfl)) ?_
  rintro ⟨c, x, d, ss, e, ins⟩ hpre
  have hpre : (formP x ss.length ins.length ∧ allOk ss ∧ allOk ins ∧ x.l.length ≤ 1048576) ∧ (fun op : Int => op = 6) x.op := hpre
  obtain ⟨⟨⟨f1, f2, f3, f4, f5, f6, f7⟩, hss, hins, hxl⟩, hop⟩ := hpre
  have hop : (fun op : Int => op = 6) x.op := hop
  dsimp only at hop
  unfold lsP at f2
  have hmax : maxLen = 9223372036854775807 := rfl
  have t0 : Int.toNat 0 = 0 := rfl
  have t1 : Int.toNat 1 = 1 := rfl
  have t2 : Int.toNat 2 = 2 := rfl
  have hA : shapeOk (ss.getD x.a.toNat []) = true := hss x.a.toNat (by omega)
  have hA3 := ((shapeOk_iff _).1 hA).1
  have w1 : IntKind.i64.wrap (((ss.getD x.a.toNat []).length : Int) - 1) = (ss.getD x.a.toNat []).length - 1 := IntWalk.i64_in _ (by omega)
  conv => whnf
  repeat' (first
    | ((first | refine plan_in (id := 17) [0, 1, 3, 4, 6, 2, 5, 7, 8, 9, 10] (by kernel_rfl) (by kernel_rfl) ?_ | refine plan_in (id := 23) [0, 1, 2, 3, 4, 5, 6, 7, 8, 9, 10, 11, 12, 13, 14, 15, 16] (by kernel_rfl) (by kernel_rfl) ?_ | refine plan_in (id := 25) [0, 1, 2, 3, 4, 5, 6, 7, 8] (by kernel_rfl) (by kernel_rfl) ?_ | refine aIf_t ?_ | refine aIf_f ?_ | refine fun (_ : _ ≤ maxLen) => ?_ | refine get_nat (by omega) ?_ | refine aGet_in rfl ?_ | refine And.intro (by omega) ?_ | refine And.intro rfl (And.intro (List.cons_ne_nil _ _) ?_) | refine callG_t ?_ | refine l2Nums_call (by omega) ?_ | refine append_same ?_ | refine get_ii_n (by omega) ?_ | refine get_ii (by omega) ?_); conv => whnf) | (refine l3CutShape_call (by first | omega | assumption | (refine ⟨?_, ?_⟩ <;> first | assumption | omega) | (refine ⟨?_, ?_, ?_⟩ <;> first | assumption | omega)) ?_; conv => whnf) | (refine l2Without_calli (by omega) ?_; conv => whnf) | (refine l2BesideShape_call (by first | omega | assumption | (refine ⟨?_, ?_⟩ <;> first | assumption | omega) | (refine ⟨?_, ?_, ?_⟩ <;> first | assumption | omega)) ?_; conv => whnf) | ((first | refine And.intro (pureL_ints _ _) ?_ | refine in_call ?_ | refine l1Count_call ?_ | refine sCountOf_call ?_ | refine sTurnShape_call (by omega) ?_); conv => whnf) | refine aIf_eqf ?_
    | refine aIf_not ?_ | (refine aIf_dec (fun _ => ?_) (fun _ => ?_) <;> conv => whnf))
  all_goals (first | (exfalso; omega) | skip)
  all_goals exact retLBM (zs := (ss.getD x.a.toNat [])) (by simp [spL, kL, hop]) (decide_eq_true (.inr (.inl hop))) rfl rfl
end Go.Proofs.YtjmdhfjemaoebaaGreat
namespace Go.Proofs.YtjmdhfjemaoebaaGreat
set_option maxRecDepth 20000
open Go.RowKit Go.Am
set_option linter.unusedSimpArgs false
attribute [local irreducible] aPlan aGet aIf aLoop aCall RetB NextB CallB CallG aCut aSet aAppend
set_option maxHeartbeats 8000000 in
theorem l3Shape_7 : Sound Tryz.prog 96 (l3P (fun op => op = 7)) := by
  refine sound_of Tryz.func96 rfl (enters_of Tryz.func96 (by kernel_rfl) (by kernel_rfl)) ?_
  rintro ⟨c, x, d, ss, e, ins⟩ hpre
  have hpre : (formP x ss.length ins.length ∧ allOk ss ∧ allOk ins ∧ x.l.length ≤ 1048576) ∧ (fun op : Int => op = 7) x.op := hpre
  obtain ⟨⟨⟨f1, f2, f3, f4, f5, f6, f7⟩, hss, hins, hxl⟩, hop⟩ := hpre
  have hop : (fun op : Int => op = 7) x.op := hop
  dsimp only at hop
  unfold lsP at f2
  have hmax : maxLen = 9223372036854775807 := rfl
  have t0 : Int.toNat 0 = 0 := rfl
  have t1 : Int.toNat 1 = 1 := rfl
  have t2 : Int.toNat 2 = 2 := rfl
  have hA : shapeOk (ss.getD x.a.toNat []) = true := hss x.a.toNat (by omega)
  have hA3 := ((shapeOk_iff _).1 hA).1
  have w1 : IntKind.i64.wrap (((ss.getD x.a.toNat []).length : Int) - 1) = (ss.getD x.a.toNat []).length - 1 := IntWalk.i64_in _ (by omega)
  have hl : x.l.length = 1 := by omega
  by_cases hi : 0 ≤ (x.l.getD (Int.toNat 0) 0) ∧ (x.l.getD (Int.toNat 0) 0) < (ss.getD x.a.toNat []).length
  · have hk : kOk x ss := .inr (.inr (.inr (.inl ⟨hop, hi⟩)))
    have h1 : spL x ss ins = wo (ss.getD x.a.toNat []) (x.l.getD (Int.toNat 0) 0).toNat := by rw [spL_ok hk]; simp [kL, hop]
    have h2 : decide (kOk x ss) = true := decide_eq_true hk
    conv => whnf
    repeat' (first
      | ((first | refine plan_in (id := 17) [0, 1, 3, 4, 6, 2, 5, 7, 8, 9, 10] (by kernel_rfl) (by kernel_rfl) ?_ | refine plan_in (id := 23) [0, 1, 2, 3, 4, 5, 6, 7, 8, 9, 10, 11, 12, 13, 14, 15, 16] (by kernel_rfl) (by kernel_rfl) ?_ | refine plan_in (id := 25) [0, 1, 2, 3, 4, 5, 6, 7, 8] (by kernel_rfl) (by kernel_rfl) ?_ | refine aIf_t ?_ | refine aIf_f ?_ | refine fun (_ : _ ≤ maxLen) => ?_ | refine get_nat (by omega) ?_ | refine get_int (by omega) ?_ | refine aGet_in rfl ?_ | refine And.intro (by omega) ?_ | refine And.intro rfl (And.intro (List.cons_ne_nil _ _) ?_) | refine callG_t ?_ | refine l2Nums_call (by omega) ?_ | refine append_same ?_ | refine get_ii_n (by omega) ?_ | refine get_ii (by omega) ?_); conv => whnf) | (refine l3CutShape_call (by first | omega | assumption | (refine ⟨?_, ?_⟩ <;> first | assumption | omega) | (refine ⟨?_, ?_, ?_⟩ <;> first | assumption | omega)) ?_; conv => whnf) | (refine l2Without_calli (by omega) ?_; conv => whnf) | (refine l2BesideShape_call (by first | omega | assumption | (refine ⟨?_, ?_⟩ <;> first | assumption | omega) | (refine ⟨?_, ?_, ?_⟩ <;> first | assumption | omega)) ?_; conv => whnf) | ((first | refine And.intro (pureL_ints _ _) ?_ | refine in_call ?_ | refine l1Count_call ?_ | refine sCountOf_call ?_ | refine sTurnShape_call (by omega) ?_); conv => whnf) | refine aIf_eqf ?_
      | refine aIf_not ?_ | (refine aIf_dec (fun _ => ?_) (fun _ => ?_) <;> conv => whnf))
    all_goals (first | (exfalso; omega) | skip)
    all_goals exact retLBM h1 h2 rfl rfl
  · have hk : ¬ kOk x ss := fun hk => by
      rcases hk with hk | hk | hk | hk | hk | hk | hk | hk | hk
      all_goals (first | omega | exact hi hk.2)
    have h1 : spL x ss ins = [] := by unfold spL; rw [if_pos ⟨.inl hop, hk⟩]
    have h2 : decide (kOk x ss) = false := decide_eq_false hk
    conv => whnf
    repeat' (first
      | ((first | refine plan_in (id := 17) [0, 1, 3, 4, 6, 2, 5, 7, 8, 9, 10] (by kernel_rfl) (by kernel_rfl) ?_ | refine plan_in (id := 23) [0, 1, 2, 3, 4, 5, 6, 7, 8, 9, 10, 11, 12, 13, 14, 15, 16] (by kernel_rfl) (by kernel_rfl) ?_ | refine plan_in (id := 25) [0, 1, 2, 3, 4, 5, 6, 7, 8] (by kernel_rfl) (by kernel_rfl) ?_ | refine aIf_t ?_ | refine aIf_f ?_ | refine fun (_ : _ ≤ maxLen) => ?_ | refine get_nat (by omega) ?_ | refine get_int (by omega) ?_ | refine aGet_in rfl ?_ | refine And.intro (by omega) ?_ | refine And.intro rfl (And.intro (List.cons_ne_nil _ _) ?_) | refine callG_t ?_ | refine l2Nums_call (by omega) ?_ | refine append_same ?_ | refine get_ii_n (by omega) ?_ | refine get_ii (by omega) ?_); conv => whnf) | (refine l3CutShape_call (by first | omega | assumption | (refine ⟨?_, ?_⟩ <;> first | assumption | omega) | (refine ⟨?_, ?_, ?_⟩ <;> first | assumption | omega)) ?_; conv => whnf) | (refine l2Without_calli (by omega) ?_; conv => whnf) | (refine l2BesideShape_call (by first | omega | assumption | (refine ⟨?_, ?_⟩ <;> first | assumption | omega) | (refine ⟨?_, ?_, ?_⟩ <;> first | assumption | omega)) ?_; conv => whnf) | ((first | refine in_call ?_ | refine l1Count_call ?_ | refine sCountOf_call ?_ | refine sTurnShape_call (by omega) ?_); conv => whnf) | refine aIf_eqf ?_
      | refine aIf_not ?_ | (refine aIf_dec (fun _ => ?_) (fun _ => ?_) <;> conv => whnf))
    all_goals (first | (exfalso; omega) | skip)
    all_goals exact retLBM h1 h2 rfl rfl
set_option maxHeartbeats 8000000 in
theorem l3Shape_8 : Sound Tryz.prog 96 (l3P (fun op => op = 8)) := by
  refine sound_of Tryz.func96 rfl (enters_of Tryz.func96 (by kernel_rfl) (by kernel_rfl)) ?_
  rintro ⟨c, x, d, ss, e, ins⟩ hpre
  have hpre : (formP x ss.length ins.length ∧ allOk ss ∧ allOk ins ∧ x.l.length ≤ 1048576) ∧ (fun op : Int => op = 8) x.op := hpre
  obtain ⟨⟨⟨f1, f2, f3, f4, f5, f6, f7⟩, hss, hins, hxl⟩, hop⟩ := hpre
  have hop : (fun op : Int => op = 8) x.op := hop
  dsimp only at hop
  unfold lsP at f2
  have hmax : maxLen = 9223372036854775807 := rfl
  have t0 : Int.toNat 0 = 0 := rfl
  have t1 : Int.toNat 1 = 1 := rfl
  have t2 : Int.toNat 2 = 2 := rfl
  have hA : shapeOk (ss.getD x.a.toNat []) = true := hss x.a.toNat (by omega)
  have hA3 := ((shapeOk_iff _).1 hA).1
  have w1 : IntKind.i64.wrap (((ss.getD x.a.toNat []).length : Int) - 1) = (ss.getD x.a.toNat []).length - 1 := IntWalk.i64_in _ (by omega)
  have h1 : spL x ss ins = tsL (ss.getD x.a.toNat []) x.l := by simp [spL, kL, hop]
  have h2 : decide (kOk x ss) = tsOk (ss.getD x.a.toNat []) x.l := by simp [kOk, hop]
  conv => whnf
  repeat' (first
    | ((first | refine plan_in (id := 17) [0, 1, 3, 4, 6, 2, 5, 7, 8, 9, 10] (by kernel_rfl) (by kernel_rfl) ?_ | refine plan_in (id := 23) [0, 1, 2, 3, 4, 5, 6, 7, 8, 9, 10, 11, 12, 13, 14, 15, 16] (by kernel_rfl) (by kernel_rfl) ?_ | refine plan_in (id := 25) [0, 1, 2, 3, 4, 5, 6, 7, 8] (by kernel_rfl) (by kernel_rfl) ?_ | refine aIf_t ?_ | refine aIf_f ?_ | refine fun (_ : _ ≤ maxLen) => ?_ | refine get_nat (by omega) ?_ | refine aGet_in rfl ?_ | refine And.intro (by omega) ?_ | refine And.intro rfl (And.intro (List.cons_ne_nil _ _) ?_) | refine callG_t ?_ | refine l2Nums_call (by omega) ?_ | refine append_same ?_ | refine get_ii_n (by omega) ?_ | refine get_ii (by omega) ?_); conv => whnf) | (refine l3CutShape_call (by first | omega | assumption | (refine ⟨?_, ?_⟩ <;> first | assumption | omega) | (refine ⟨?_, ?_, ?_⟩ <;> first | assumption | omega)) ?_; conv => whnf) | (refine l2Without_calli (by omega) ?_; conv => whnf) | (refine l2BesideShape_call (by first | omega | assumption | (refine ⟨?_, ?_⟩ <;> first | assumption | omega) | (refine ⟨?_, ?_, ?_⟩ <;> first | assumption | omega)) ?_; conv => whnf) | ((first | refine And.intro (pureL_ints _ _) ?_ | refine in_call ?_ | refine l1Count_call ?_ | refine sCountOf_call ?_ | refine sTurnShape_call (by omega) ?_); conv => whnf) | refine aIf_eqf ?_
    | refine aIf_not ?_ | (refine aIf_dec (fun _ => ?_) (fun _ => ?_) <;> conv => whnf))
  all_goals (first | (exfalso; omega) | skip)
  all_goals exact retLBM h1 h2 rfl rfl
end Go.Proofs.YtjmdhfjemaoebaaGreat
