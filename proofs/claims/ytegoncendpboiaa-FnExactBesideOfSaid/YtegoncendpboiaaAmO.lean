/- The abstract machine, part O: arguments read; a law that always answers true. -/
import Derived.Test.YtegoncendpboiaaAmN
import Derived.ProofKit
namespace Go.Am
open Go.RowKit Go.WideShapes Go.ChangeShapes

/-- The arguments that a type has, as trees. -/
inductive ArgOk (P : Program) : TypeId → AV → Prop
  | int (t : TypeId) (n : Int) (ht : P.underlying t = some (.int .i64)) (hn : (Lit.int .i64 n).wf = true) : ArgOk P t (.int .i64 n)
  | ints (t e : TypeId) (k : IntKind) (zs : List Int) (ht : P.underlying t = some (.slice e)) (he : P.underlying e = some (.int k)) (hz : ∀ z ∈ zs, (Lit.int k z).wf = true) : ArgOk P t (.sl 1 zs.length (zs.map (.int k)))

/-- The types that are opened here. -/
def opens (P : Program) (t : TypeId) : Bool :=
  match P.underlying t with
  | some (.int .i64) => true
  | some (.slice e) => (match P.underlying e with | some (.int _) => true | _ => false) && P.cellsOf e == 1
  | _ => false

section
variable {H : Type} {enc : TypeId × Value → H} {P : Program} {W : World}

theorem arg_open {t : TypeId} {v : Value} {d : DataW H} {p : List MemPlace} {base : Nat} (ho : opens P t = true) (hval : Value.okWide P W .any base t v) (h : DataW.Trod enc P W 0 (fun _ => true) true t v d p) (hlt : ∀ x ∈ p, x.block < W.heap.size) :
    ∃ av, ArgOk P t av ∧ VR (fun b => b < W.heap.size) W noPl [] 1 v av := by
  unfold opens at ho
  split at ho
  · rename_i ht
    obtain ⟨n, rfl, rfl, rfl, wn⟩ := open_int ht hval h
    exact ⟨.int .i64 n, .int t n ht wn, .int _ _⟩
  · rename_i e ht
    simp only [Bool.and_eq_true, beq_iff_eq] at ho
    obtain ⟨he, hc⟩ := ho
    split at he
    · rename_i k he'
      obtain ⟨a0, len, cap, rfl⟩ := okWide_slice ht hval
      obtain ⟨fuel, hf⟩ := h
      rcases open_ints ht he' hc hf with ⟨hcs, hx⟩ | ⟨a, len', cap', zs, hcs, _, hl, hm, hz, hx, hcell, hwz⟩
      · simp [Value.cells] at hcs
        obtain ⟨rfl, rfl, rfl⟩ := hcs
        exact ⟨.sl 1 ([] : List Int).length (([] : List Int).map (.int k)), .ints t e k [] ht he' (fun z hz => by simp at hz), .sl0 none 0 1 (Nat.zero_le _)⟩
      · simp [Value.cells] at hcs
        obtain ⟨rfl, rfl, rfl⟩ := hcs
        simp only [Prod.mk.injEq] at hx
        obtain ⟨rfl, rfl⟩ := hx
        simp only [if_true] at hz
        have hlen : (zs.take len).length = len := by simp; omega
        have hok : ArgOk P t (.sl 1 (zs.take len).length ((zs.take len).map (.int k))) := .ints t e k (zs.take len) ht he' (fun z hz => hwz z (List.mem_of_mem_take hz))
        rw [hlen] at hok
        by_cases h0 : len = 0
        · subst h0
          exact ⟨_, hok, by simpa using VR.sl0 (some a) cap 1 hm⟩
        · refine ⟨_, hok, .sl a 1 len cap _ ((zs.take len).map (.int k)) (by simpa [Addr.add] using World.cell?_spot (hcell 0 (by omega))) (fun h => h) (fun _ => ?_) ?_ hl hm (by simp) (fun j hj => ?_) (fun v hv => ?_) (fun j v u hv hu => ?_)⟩
          · exact hlt (.cell a.block a.off) (MemPlace.mem_row.2 ⟨0, by omega, by simp⟩)
          · exact hlt (.cell a.block a.off) (MemPlace.mem_row.2 ⟨0, by omega, by simp⟩)
          · have hj' : j < len := by rw [List.length_map, hlen] at hj; exact hj
            have hjz : j < zs.length := by omega
            rw [hcell j hjz]
            simp [hj', List.getD, List.getElem?_eq_getElem hjz]
          · simp only [List.mem_map] at hv
            obtain ⟨z, _, rfl⟩ := hv
            rfl
          · simp only [List.getElem?_map, Option.map_eq_some_iff] at hv hu
            obtain ⟨z, hz, rfl⟩ := hv
            obtain ⟨z', hz', rfl⟩ := hu
            rw [hz] at hz'; cases hz'
            exact .int _ _
    · cases he
  · cases ho

theorem args_open {base : Nat} : ∀ {ts : List TypeId} {vs : List Value} {ds : List (DataW H)} {p : List MemPlace}, ts.all (opens P) = true → (∀ (j : Nat) t v, ts[j]? = some t → vs[j]? = some v → Value.okWide P W .any base t v) →
    DataW.TrodAll enc P W 0 (fun _ => true) true ts vs ds p → (∀ x ∈ p, x.block < W.heap.size) → ∃ avs : List AV, avs.length = vs.length ∧ ds.length = ts.length ∧ avs.length = ts.length ∧ (∀ (j : Nat) (t : TypeId) (av : AV), ts[j]? = some t → avs[j]? = some av → ArgOk P t av) ∧
      (∀ (j : Nat) (v : Value) (av : AV), vs[j]? = some v → avs[j]? = some av → VR (fun b => b < W.heap.size) W noPl [] 1 v av)
  | [], vs, ds, p, _, _, h, _ => by
    obtain ⟨rfl, rfl, rfl⟩ := trodAll_nil h
    exact ⟨[], rfl, rfl, rfl, fun j t av h => by simp at h, fun j v av h => by simp at h⟩
  | t :: ts, vs, ds, p, ho, hval, h, hlt => by
    obtain ⟨v, vs', d, ds', p1, q, rfl, rfl, rfl, hd, hrest⟩ := trodAll_cons h
    simp only [List.all_cons, Bool.and_eq_true] at ho
    obtain ⟨av, a1, a2⟩ := arg_open ho.1 (hval 0 t v rfl rfl) hd (fun x hx => hlt x (List.mem_append.2 (.inl hx)))
    obtain ⟨avs, b1, b2, b3, b4, b5⟩ := args_open ho.2 (fun j t v h1 h2 => hval (j + 1) t v (by simpa using h1) (by simpa using h2)) hrest (fun x hx => hlt x (List.mem_append.2 (.inr hx)))
    refine ⟨av :: avs, by simp [b1], by simp [b2], by simp [b3], fun j t' av' h1 h2 => ?_, fun j v' av' h1 h2 => ?_⟩
    · cases j with
      | zero => simp at h1 h2; subst h1; subst h2; exact a1
      | succ j => exact b4 j t' av' (by simpa using h1) (by simpa using h2)
    · cases j with
      | zero => simp at h1 h2; subst h1; subst h2; exact a2
      | succ j => exact b5 j v' av' (by simpa using h1) (by simpa using h2)

theorem args_stay {sp : Nat → Bool} {W' : World} (hl : laidOutB P = true) : ∀ {ts : List TypeId} {vs : List Value} {ds : List (DataW H)} {p : List MemPlace}, ts.all (fun t => P.readableRec t && decide (t < P.types.size)) = true →
    DataW.TrodAll enc P W 0 (fun _ => true) true ts vs ds p → (∀ x ∈ p, W.sameAt W' x) → (∀ x ∈ p, sp x.block = true) → DataW.TrodAll enc P W' 0 sp true ts vs ds p
  | [], vs, ds, p, _, h, _, _ => by
    obtain ⟨rfl, rfl, rfl⟩ := trodAll_nil h
    exact rfl
  | t :: ts, vs, ds, p, hr, h, hsame, hsp => by
    obtain ⟨v, vs', d, ds', p1, q, rfl, rfl, rfl, hd, hrest⟩ := trodAll_cons h
    simp only [List.all_cons, Bool.and_eq_true, decide_eq_true_eq] at hr
    exact ⟨p1, q, WideElems.Trod_stays hl hr.1.1 hr.1.2 hd (fun x hx => hsame x (List.mem_append.2 (.inl hx))) (fun x hx => hsp x (List.mem_append.2 (.inl hx))),
      args_stay hl hr.2 hrest (fun x hx => hsame x (List.mem_append.2 (.inr hx))) (fun x hx => hsp x (List.mem_append.2 (.inr hx))), rfl⟩

/-- A law: whatever the arguments, true; nothing that was there has turned. -/
theorem law_post {f : FuncId} {fn : Func} {tb : TypeId} {spec : CSpec} {s : ChangeSpec} (hs : Sound P f spec) (hl : laidOutB P = true) (hop : fn.params.toList.all (opens P) = true) (hrd : fn.params.toList.all (fun t => P.readableRec t && decide (t < P.types.size)) = true)
    (hres : fn.resultTypes = #[tb]) (hb : P.underlying tb = some .bool) (hv : s.vars = []) (hfn : ∀ ds : List (DataW H), ds.length = fn.params.toList.length → (s.fn H ds).results = [.lit (.bool true)] ∧ (s.fn H ds).args = ds ∧ (s.fn H ds).vars = [])
    (hlaw : ∀ avs : List AV, avs.length = fn.params.toList.length → (∀ (j : Nat) (t : TypeId) (av : AV), fn.params.toList[j]? = some t → avs[j]? = some av → ArgOk P t av) →
      ∃ x, spec.args x = avs ∧ spec.ins x = [] ∧ spec.pre x ∧ ∀ r ic news, spec.post x r ic news → r = .bool true)
    {base : Nat} {args : Array Value} {ds gs : List (DataW H)} {before : List MemPlace} (hval : ∀ (j : Nat) t v, fn.params[j]? = some t → args[j]? = some v → Value.okWide P W .any base t v)
    (hW : DataW.Whole enc P fn.params.toList s.vars false W args.toList ds gs before) : Calls P f args W fun e W' => ∃ v, e = .returned v ∧ s.post enc P fn false true false false W args v W' := by
  have hW' := hW
  have hltb : ∀ x ∈ before, x.block < W.heap.size := fun x hx => hW.lt x hx
  obtain ⟨p, q, hA, hV, rfl, _, _⟩ := hW
  rw [hv] at hV
  obtain ⟨rfl, rfl⟩ := trodVars_none hV
  simp only [List.append_nil] at hltb hW'
  obtain ⟨avs, a1, a2, a3, a4, a5⟩ := args_open hop (fun j t v h1 h2 => hval j t v (by simpa using h1) (by simpa using h2)) hA hltb
  obtain ⟨x, rfl, hins, hpre, hpost⟩ := hlaw avs a3 a4
  have hsr : SR (fun b => b < W.heap.size) W noPl args.toList ⟨spec.args x, spec.ins x, 1, (spec.ins x).length⟩ := by
    rw [hins]
    exact ⟨fun g hg => hg.elim, fun b hb => hb, rfl, Nat.le_refl _, fun t t' g h => (by simp [noPl] at h), fun g hg => hg.elim, fun g hg => (by simp [noPl] at hg), fun r hr => (by simp at hr), ⟨fun _ _ => noFoot, fun t r ob h => (by simp at h), fun _ _ _ => rfl, fun t t' j j' p p' b h => h.elim, fun t j p b h => h.elim, fun t j p b h => h.elim⟩, fun t r h => (by simp at h), a1.symm, fun i v u h1 h2 => a5 i v u h1 h2⟩
  refine (hs.2 x hpre _ W args noPl hsr (fun r hr => by rw [hins] at hr; simp at hr)).mono ?_
  rintro e W' ⟨v, r, ic, news, φ', rfl, hp, hic, _, _, _, hkeep, hsr', _, _⟩
  have hr := hpost r ic news hp
  subst hr
  have hvb := (hsr'.env 0 v _ rfl rfl).bool_inv
  subst hvb
  have hbelow : Below W.heap.size W W' := ⟨hkeep.os, hkeep.tape, hkeep.output, hkeep.size, fun b hb => hkeep.block b ⟨hb, fun h => h⟩⟩
  obtain ⟨f1, f2, f3⟩ := hfn ds a2
  refine ⟨_, rfl, ds, [], p, [], p, [], by rw [hv]; simpa [hv] using hW', ?_, ?_, ?_, hbelow.frame _, fun h => by cases h⟩
  · simp only [List.append_nil]
    rw [f1, hres]
    exact trodAll_mk1 (shut_bool hb true)
  · simp only [List.append_nil]
    rw [f2]
    exact args_stay hl hrd hA (fun x hx => hbelow.same (hltb x hx)) (fun x hx => by simpa using hltb x hx)
  · simp only [List.append_nil]
    rw [f3, hv]
    exact rfl

end
end Go.Am
