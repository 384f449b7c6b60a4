import Derived.Test.YtjmdhfjemaoebaaGreatM0x11
import Derived.ProofKit
namespace Go.Am
open Go.RowKit Go.WideShapes Go.ChangeShapes
inductive CellsOk (P : Program) : TypeId → List AV → Prop
  | int (t : TypeId) (k : IntKind) (n : Int) (ht : P.underlying t = some (.int k)) (hn : (Lit.int k n).wf = true) : CellsOk P t [.int k n]
  | bool (t : TypeId) (b : Bool) (ht : P.underlying t = some .bool) : CellsOk P t [.bool b]
  | str (t : TypeId) (s : ByteArray) (ht : P.underlying t = some .string) (hs : s.size ≤ maxLen) : CellsOk P t [.str s]
  | sl (t e : TypeId) (es : List (List AV)) (ht : P.underlying t = some (.slice e)) (hz : ∀ us ∈ es, us.length = P.cellsOf e) (hes : ∀ us ∈ es, CellsOk P e us) : CellsOk P t [.sl 1 es.length es.flatten]
  | struct (t : TypeId) (fs : Array Field) (us : List AV) (ht : P.underlying t = some (.struct fs)) (hl : us.length = P.cellsOf t) (hf : ∀ f ∈ fs.toList, CellsOk P f.type ((us.drop f.offset).take (P.cellsOf f.type))) : CellsOk P t us
def tiles (P : Program) : List Field → Nat → Nat → Bool
  | [], off, tot => off == tot
  | f :: fs, off, tot => f.offset == off && tiles P fs (off + P.cellsOf f.type) tot
def opensT (P : Program) : Nat → TypeId → Bool
  | 0, _ => false
  | n + 1, t =>
    match P.underlying t with
    | some (.int _) => true
    | some .bool => true
    | some .string => true
    | some (.slice e) => P.cellsOf e != 0 && opensT P n e
    | some (.struct fs) => tiles P fs.toList 0 (P.cellsOf t) && fs.toList.all fun f => opensT P n f.type
    | _ => false
section
variable {H : Type} {enc : TypeId × Value → H} {P : Program} {W : World}
abbrev Opened (P : Program) (W : World) (t : TypeId) (cs : List Value) (us : List AV) : Prop :=
  us.length = cs.length ∧ CellsOk P t us ∧ ∀ (j : Nat) (v : Value) (u : AV), cs[j]? = some v → us[j]? = some u → v.oneCell' = true ∧ VR (fun b => b < W.heap.size) W noPl [] 1 v u
theorem flatten_get {α : Type} {z : Nat} : ∀ (es : List (List α)) (_ : ∀ us ∈ es, us.length = z) (i r : Nat), r < z → es.flatten[i * z + r]? = (es[i]?).bind (·[r]?)
  | [], _, i, r, _ => by simp
  | us :: es, h, 0, r, hr => by
    have hl := h us (by simp)
    rw [Nat.zero_mul, Nat.zero_add, List.flatten_cons, List.getElem?_append_left (by omega)]
    rfl
  | us :: es, h, i + 1, r, hr => by
    have hl := h us (by simp)
    have e : (i + 1) * z + r = us.length + (i * z + r) := by rw [Nat.add_mul, Nat.one_mul, hl]; omega
    rw [List.flatten_cons, e, List.getElem?_append_right (by omega), Nat.add_sub_cancel_left]
    simpa using flatten_get es (fun x hx => h x (by simp [hx])) i r hr
theorem flatten_length {α : Type} {z : Nat} : ∀ (es : List (List α)) (_ : ∀ us ∈ es, us.length = z), es.flatten.length = es.length * z
  | [], _ => by simp
  | us :: es, h => by
    rw [List.flatten_cons, List.length_append, flatten_length es (fun x hx => h x (by simp [hx])), h us (by simp), List.length_cons, Nat.add_mul, Nat.one_mul, Nat.add_comm]
theorem fields_open {cs : List Value} {tot : Nat} (htot : cs.length = tot) : ∀ (fs : List Field) (off : Nat), tiles P fs off tot = true →
    (∀ f ∈ fs, ∃ us, Opened P W f.type ((cs.drop f.offset).take (P.cellsOf f.type)) us) →
    off ≤ tot → ∃ us : List AV, us.length = tot - off ∧ (∀ f ∈ fs, off ≤ f.offset ∧ CellsOk P f.type ((us.drop (f.offset - off)).take (P.cellsOf f.type))) ∧
      ∀ (j : Nat) (v : Value) (u : AV), cs[off + j]? = some v → us[j]? = some u → v.oneCell' = true ∧ VR (fun b => b < W.heap.size) W noPl [] 1 v u
  | [], off, ht, _, _ => by
    simp only [tiles, beq_iff_eq] at ht
    subst ht
    exact ⟨[], by simp, fun f hf => by simp at hf, fun j v u _ hu => by simp at hu⟩
  | f :: fs, off, ht, hf, hle => by
    simp only [tiles, Bool.and_eq_true, beq_iff_eq] at ht
    obtain ⟨ho, ht⟩ := ht
    have hle' : off + P.cellsOf f.type ≤ tot := by
      have : ∀ (fs : List Field) (off : Nat), tiles P fs off tot = true → off ≤ tot := by
        intro fs
        induction fs with
        | nil => intro off h; simp only [tiles, beq_iff_eq] at h; omega
        | cons g gs ih => intro off h; simp only [tiles, Bool.and_eq_true, beq_iff_eq] at h; have := ih _ h.2; omega
      exact this fs _ ht
    obtain ⟨us, a1, a2, a3⟩ := hf f (by simp)
    have hl : us.length = P.cellsOf f.type := by rw [a1, List.length_take, List.length_drop]; omega
    obtain ⟨us', b1, b2, b3⟩ := fields_open htot fs (off + P.cellsOf f.type) ht (fun g hg => hf g (by simp [hg])) hle'
    refine ⟨us ++ us', by rw [List.length_append]; omega, fun g hg => ?_, fun j v u hv hu => ?_⟩
    · rcases List.mem_cons.1 hg with rfl | hg
      · refine ⟨by omega, ?_⟩
        rw [ho, Nat.sub_self, List.drop_zero, List.take_append_of_le_length (by omega), List.take_of_length_le (by omega)]
        exact a2
      · obtain ⟨c1, c2⟩ := b2 g hg
        refine ⟨by omega, ?_⟩
        have e : g.offset - off = us.length + (g.offset - (off + P.cellsOf f.type)) := by omega
        rw [e, ← List.drop_drop, List.drop_left]
        exact c2
    · by_cases hj : j < us.length
      · rw [List.getElem?_append_left hj] at hu
        refine a3 j v u ?_ hu
        rw [List.getElem?_take, if_pos (by omega), List.getElem?_drop, ho]
        exact hv
      · rw [List.getElem?_append_right (by omega)] at hu
        refine b3 (j - us.length) v u ?_ hu
        rw [show off + P.cellsOf f.type + (j - us.length) = off + j by omega]
        exact hv
theorem cells_open : ∀ (n fuel : Nat) (t : TypeId) (cs : List Value) (x : DataW H × List MemPlace), opensT P n t = true → DataW.trod enc P W 0 (fun _ => true) true fuel t cs = some x → (∀ p ∈ x.2, p.block < W.heap.size) → ∃ us, Opened P W t cs us
  | 0, fuel, t, cs, x, ho, _, _ => by simp [opensT] at ho
  | n + 1, fuel, t, cs, x, ho, h, hlt => by
    unfold opensT at ho
    split at ho
    · rename_i k ht
      obtain ⟨m, rfl, rfl, hw⟩ := DataW.trod_int ht h
      refine ⟨[.int k m], rfl, .int t k m ht hw, fun j v u hv hu => ?_⟩
      cases j with
      | zero => simp at hv hu; subst hv; subst hu; exact ⟨rfl, .int _ _⟩
      | succ j => simp at hv
    · rename_i ht
      cases fuel with
      | zero => simp [DataW.trod] at h
      | succ fuel =>
        unfold DataW.trod at h
        rw [ht] at h
        split at h <;> simp_all
        rename_i b
        exact ⟨[.bool b], rfl, .bool t b ht, fun j v u hv hu => by
          cases j with
          | zero => simp at hv hu; subst hv; subst hu; exact ⟨rfl, .bool _⟩
          | succ j => simp at hv⟩
    · rename_i ht
      cases fuel with
      | zero => simp [DataW.trod] at h
      | succ fuel =>
        unfold DataW.trod at h
        rw [ht] at h
        split at h <;> simp_all
        rename_i s
        obtain ⟨hs, _⟩ := h
        exact ⟨[.str s], rfl, .str t s ht hs, fun j v u hv hu => by
          cases j with
          | zero => simp at hv hu; subst hv; subst hu; exact ⟨rfl, .str _⟩
          | succ j => simp at hv⟩
    · rename_i e ht
      simp only [Bool.and_eq_true, bne_iff_ne, ne_eq] at ho
      obtain ⟨hz, ho⟩ := ho
      rcases DataW.trod_slice ht h with ⟨rfl, rfl⟩ | ⟨a, len, cap, elems, rest, m, rfl, rfl, rfl, hb, hl, hm, hlen, hel, _, _⟩
      · refine ⟨[.sl 1 0 []], rfl, .sl t e [] ht (fun us h => by simp at h) (fun us h => by simp at h), fun j v u hv hu => ?_⟩
        cases j with
        | zero => simp at hv hu; subst hv; subst hu; exact ⟨rfl, .sl0 none 0 1 (Nat.zero_le _)⟩
        | succ j => simp at hv
      · have each : ∀ i : Nat, ∃ us, i < len → ∃ cs', W.cells? 0 (a.add (i * P.cellsOf e)) (P.cellsOf e) = some cs' ∧ Opened P W e cs' us := fun i => by
          by_cases hi : i < len
          · have h1 := hel i hi
            have h2 : elems[i]? = some (elems[i]'(by omega)) := List.getElem?_eq_getElem _
            rw [h2, Option.bind_eq_some_iff] at h1
            obtain ⟨cs', c1, c2⟩ := h1
            obtain ⟨us, hus⟩ := cells_open n m e cs' _ ho c2 (fun p hp => hlt p (List.mem_append.2 (.inr (List.mem_flatMap.2 ⟨_, List.mem_append.2 (.inl (List.getElem_mem _)), hp⟩))))
            exact ⟨us, fun _ => ⟨cs', c1, hus⟩⟩
          · exact ⟨[], fun h => absurd h hi⟩
        let f : Nat → List AV := fun i => Classical.choose (each i)
        have hf := fun i => Classical.choose_spec (each i)
        let es := (List.range len).map f
        have hesl : es.length = len := by simp [es]
        have hmem : ∀ us ∈ es, ∃ i, i < len ∧ us = f i := fun us hu => by
          simp only [es, List.mem_map, List.mem_range] at hu
          obtain ⟨i, hi, rfl⟩ := hu
          exact ⟨i, hi, rfl⟩
        have hzl : ∀ us ∈ es, us.length = P.cellsOf e := fun us hu => by
          obtain ⟨i, hi, rfl⟩ := hmem us hu
          obtain ⟨cs', c1, c2, _⟩ := hf i hi
          have := (World.cells?_some c1).2.1
          show (Classical.choose (each i)).length = _
          omega
        have hok : CellsOk P t [.sl 1 es.length es.flatten] := .sl t e es ht hzl fun us hu => by
          obtain ⟨i, hi, rfl⟩ := hmem us hu
          obtain ⟨cs', c1, _, c2, _⟩ := hf i hi
          exact c2
        rw [hesl] at hok
        refine ⟨[.sl 1 len es.flatten], rfl, hok, fun j v u hv hu => ?_⟩
        cases j with
        | succ j => simp at hv
        | zero =>
          simp at hv hu
          subst hv; subst hu
          refine ⟨rfl, ?_⟩
          by_cases h0 : len = 0
          · subst h0
            have : es.flatten = [] := by
              have : es = [] := List.eq_nil_of_length_eq_zero hesl
              rw [this]; rfl
            rw [this]
            exact .sl0 (some a) cap 1 hm
          · have hfl : es.flatten.length = len * P.cellsOf e := by rw [flatten_length es hzl, hesl]
            have cell : ∀ j, j < len * P.cellsOf e → ∃ v u, W.cell? (a.add j) = some v ∧ es.flatten[j]? = some u ∧ v.oneCell' = true ∧ VR (fun b => b < W.heap.size) W noPl [] 1 v u := fun j hj => by
              have hzp : 0 < P.cellsOf e := by omega
              have hi : j / P.cellsOf e < len := (Nat.div_lt_iff_lt_mul hzp).2 hj
              have hr : j % P.cellsOf e < P.cellsOf e := Nat.mod_lt _ hzp
              have hj' : j = j / P.cellsOf e * P.cellsOf e + j % P.cellsOf e := by rw [Nat.mul_comm]; exact (Nat.div_add_mod _ _).symm
              obtain ⟨cs', c1, c2, c3, c4⟩ := hf (j / P.cellsOf e) hi
              obtain ⟨_, d1, d2⟩ := World.cells?_some c1
              have hu : (Classical.choose (each (j / P.cellsOf e)))[j % P.cellsOf e]? = some ((Classical.choose (each (j / P.cellsOf e)))[j % P.cellsOf e]'(by omega)) := List.getElem?_eq_getElem _
              have hv : cs'[j % P.cellsOf e]? = some (cs'[j % P.cellsOf e]'(by omega)) := List.getElem?_eq_getElem _
              obtain ⟨e1, e2⟩ := c4 _ _ _ hv hu
              refine ⟨_, _, ?_, ?_, e1, e2⟩
              · rw [← hv, ← d2 _ hr, add_of_add, ← hj']
              · rw [← hu]
                conv => lhs; rw [hj']
                rw [flatten_get es hzl _ _ hr]
                have : es[j / P.cellsOf e]? = some (f (j / P.cellsOf e)) := by simp [es, List.getElem?_range hi]
                rw [this]; rfl
            have hblk : a.block < W.heap.size := by
              obtain ⟨cs', c1, _⟩ := hf 0 (by omega)
              have := World.cells?_block c1 (by omega)
              rwa [block_of_add] at this
            have hspot : a.spot = none := by
              obtain ⟨v, u, h1, _⟩ := cell 0 (Nat.mul_pos (by omega) (by omega))
              have h2 : a.add 0 = a := by simp [Addr.add]
              rw [h2] at h1
              exact World.cell?_spot h1
            refine .sl a 1 len cap es.flatten ((List.range (len * P.cellsOf e)).map fun j => (W.cell? (a.add j)).getD undef) hspot (fun h => h) (fun _ => hblk) hblk hl hm (by simp [hfl]) (fun j hj => ?_) (fun v hv => ?_) (fun j v u hv hu => ?_)
            · have hj' : j < len * P.cellsOf e := by simpa using hj
              obtain ⟨v, u, h1, _⟩ := cell j hj'
              simp [hj', h1]
            · simp only [List.mem_map, List.mem_range] at hv
              obtain ⟨j, hj, rfl⟩ := hv
              obtain ⟨v, u, h1, _, h3, _⟩ := cell j hj
              simp [h1, h3]
            · have hj : j < len * P.cellsOf e := by
                have := (List.getElem?_eq_some_iff.1 hv).1
                simpa using this
              obtain ⟨v', u', h1, h2, _, h4⟩ := cell j hj
              rw [h2] at hu; cases hu
              simp [hj, h1] at hv
              subst hv
              exact h4
    · rename_i fs ht
      simp only [Bool.and_eq_true] at ho
      obtain ⟨hti, ho⟩ := ho
      obtain ⟨xs, m, rfl, rfl, hl, hlen, hfs⟩ := DataW.trod_struct ht h
      obtain ⟨us, a1, a2, a3⟩ := fields_open (P := P) (W := W) hl fs.toList 0 hti (fun f hf => by
        obtain ⟨i, hi⟩ := List.getElem?_of_mem hf
        have hi' : fs[i]? = some f := by simpa using hi
        have hil : i < xs.length := by rw [hlen]; exact (Array.getElem?_eq_some_iff.1 hi').1
        have h1 := hfs i f hi'
        have h2 : xs[i]? = some xs[i] := List.getElem?_eq_getElem hil
        rw [h2] at h1
        exact cells_open n m f.type _ _ (by rw [List.all_eq_true] at ho; exact ho f hf) h1 (fun p hp => hlt p (List.mem_flatMap.2 ⟨_, List.getElem_mem hil, hp⟩))) (Nat.zero_le _)
      refine ⟨us, by omega, .struct t fs us ht (by omega) fun f hf => ?_, fun j v u hv hu => a3 j v u (by rw [Nat.zero_add]; exact hv) hu⟩
      have := (a2 f hf).2
      rwa [Nat.sub_zero] at this
    · cases ho
def ArgR (P : Program) (t : TypeId) (av : AV) : Prop :=
  match P.underlying t with
  | some (.struct _) => ∃ us, av = .agg us ∧ CellsOk P t us
  | _ => CellsOk P t [av]
theorem argR_open {n : Nat} {t : TypeId} {v : Value} {d : DataW H} {p : List MemPlace} {base : Nat} (ho : opensT P n t = true) (hval : Value.okWide P W .any base t v) (h : DataW.Trod enc P W 0 (fun _ => true) true t v d p) (hlt : ∀ x ∈ p, x.block < W.heap.size) :
    ∃ av, ArgR P t av ∧ VR (fun b => b < W.heap.size) W noPl [] 1 v av := by
  obtain ⟨fuel, hf⟩ := h
  obtain ⟨us, h1, h2, h3⟩ := cells_open n fuel t _ _ ho hf hlt
  have one : ∀ v', v.cells.toList = [v'] → v = v' → (∀ fs, P.underlying t ≠ some (.struct fs)) → ∃ av, ArgR P t av ∧ VR (fun b => b < W.heap.size) W noPl [] 1 v av := fun v' hc hv hns => by
    rw [hc] at h1
    match us, h1 with
    | [u], _ =>
      refine ⟨u, ?_, ?_⟩
      · unfold ArgR
        split
        · rename_i fs hfs; exact absurd hfs (hns fs)
        · exact h2
      · rw [hv]
        exact (h3 0 v' u (by rw [hc]; rfl) rfl).2
  cases n with
  | zero => simp [opensT] at ho
  | succ n =>
    unfold opensT at ho
    split at ho
    · rename_i k ht
      obtain ⟨m, rfl⟩ := okWide_int ht hval
      exact one _ rfl rfl (fun fs e => by rw [ht] at e; cases e)
    · rename_i ht
      obtain ⟨b, rfl⟩ := okWide_bool ht hval
      exact one _ rfl rfl (fun fs e => by rw [ht] at e; cases e)
    · rename_i ht
      obtain ⟨s, rfl⟩ := okWide_string ht hval
      exact one _ rfl rfl (fun fs e => by rw [ht] at e; cases e)
    · rename_i e' ht
      obtain ⟨a, len, cap, rfl⟩ := okWide_slice ht hval
      exact one _ rfl rfl (fun fs e => by rw [ht] at e; cases e)
    · rename_i fs ht
      obtain ⟨cs, rfl, hcs⟩ := okWide_struct ht hval
      refine ⟨.agg us, ?_, .agg cs us (by simpa [Value.cells] using h1.symm) (fun j v hv => ?_) (fun j v u hv hu => ?_)⟩
      · unfold ArgR; rw [ht]; exact ⟨us, rfl, h2⟩
      · have hj : j < us.length := by
          rw [h1]; have := (Array.getElem?_eq_some_iff.1 hv).1; simpa [Value.cells] using this
        exact (h3 j v _ (by simpa [Value.cells] using hv) (List.getElem?_eq_getElem hj)).1
      · exact (h3 j v u (by simpa [Value.cells] using hv) hu).2
    · cases ho
theorem argsR_open {n base : Nat} : ∀ {ts : List TypeId} {vs : List Value} {ds : List (DataW H)} {p : List MemPlace}, ts.all (opensT P n) = true → (∀ (j : Nat) t v, ts[j]? = some t → vs[j]? = some v → Value.okWide P W .any base t v) →
    DataW.TrodAll enc P W 0 (fun _ => true) true ts vs ds p → (∀ x ∈ p, x.block < W.heap.size) → ∃ avs : List AV, avs.length = vs.length ∧ ds.length = ts.length ∧ avs.length = ts.length ∧ (∀ (j : Nat) (t : TypeId) (av : AV), ts[j]? = some t → avs[j]? = some av → ArgR P t av) ∧
      (∀ (j : Nat) (v : Value) (av : AV), vs[j]? = some v → avs[j]? = some av → VR (fun b => b < W.heap.size) W noPl [] 1 v av)
  | [], vs, ds, p, _, _, h, _ => by
    obtain ⟨rfl, rfl, rfl⟩ := trodAll_nil h
    exact ⟨[], rfl, rfl, rfl, fun j t av h => by simp at h, fun j v av h => by simp at h⟩
  | t :: ts, vs, ds, p, ho, hval, h, hlt => by
    obtain ⟨v, vs', d, ds', p1, q, rfl, rfl, rfl, hd, hrest⟩ := trodAll_cons h
    simp only [List.all_cons, Bool.and_eq_true] at ho
    obtain ⟨av, a1, a2⟩ := argR_open ho.1 (hval 0 t v rfl rfl) hd (fun x hx => hlt x (List.mem_append.2 (.inl hx)))
    obtain ⟨avs, b1, b2, b3, b4, b5⟩ := argsR_open ho.2 (fun j t v h1 h2 => hval (j + 1) t v (by simpa using h1) (by simpa using h2)) hrest (fun x hx => hlt x (List.mem_append.2 (.inr hx)))
    refine ⟨av :: avs, by simp [b1], by simp [b2], by simp [b3], fun j t' av' h1 h2 => ?_, fun j v' av' h1 h2 => ?_⟩
    · cases j with
      | zero => simp at h1 h2; subst h1; subst h2; exact a1
      | succ j => exact b4 j t' av' (by simpa using h1) (by simpa using h2)
    · cases j with
      | zero => simp at h1 h2; subst h1; subst h2; exact a2
      | succ j => exact b5 j v' av' (by simpa using h1) (by simpa using h2)
theorem law_postR {n : Nat} {f : FuncId} {fn : Func} {tb : TypeId} {spec : CSpec} {s : ChangeSpec} (hs : Sound P f spec) (hl : laidOutB P = true) (hop : fn.params.toList.all (opensT P n) = true) (hrd : fn.params.toList.all (fun t => P.readableRec t && decide (t < P.types.size)) = true)
    (hres : fn.resultTypes = #[tb]) (hb : P.underlying tb = some .bool) (hv : s.vars = []) (hfn : ∀ ds : List (DataW H), ds.length = fn.params.toList.length → (s.fn H ds).results = [.lit (.bool true)] ∧ (s.fn H ds).args = ds ∧ (s.fn H ds).vars = [])
    (hlaw : ∀ avs : List AV, avs.length = fn.params.toList.length → (∀ (j : Nat) (t : TypeId) (av : AV), fn.params.toList[j]? = some t → avs[j]? = some av → ArgR P t av) →
      ∃ x, spec.args x = avs ∧ spec.ins x = [] ∧ spec.pre x ∧ ∀ r ic news, spec.post x r ic news → r = .bool true)
    {base : Nat} {args : Array Value} {ds gs : List (DataW H)} {before : List MemPlace} (hval : ∀ (j : Nat) t v, fn.params[j]? = some t → args[j]? = some v → Value.okWide P W .any base t v)
    (hW : DataW.Whole enc P fn.params.toList s.vars false W args.toList ds gs before) : Calls P f args W fun e W' => ∃ v, e = .returned v ∧ s.post enc P fn false true false false W args v W' := by
  have hW' := hW
  have hltb : ∀ x ∈ before, x.block < W.heap.size := fun x hx => hW.lt x hx
  obtain ⟨p, q, hA, hV, rfl, _, _⟩ := hW
  rw [hv] at hV
  obtain ⟨rfl, rfl⟩ := trodVars_none hV
  simp only [List.append_nil] at hltb hW'
  obtain ⟨avs, a1, a2, a3, a4, a5⟩ := argsR_open hop (fun j t v h1 h2 => hval j t v (by simpa using h1) (by simpa using h2)) hA hltb
  obtain ⟨x, rfl, hins, hpre, hpost⟩ := hlaw avs a3 a4
  have hsr : SR (fun b => b < W.heap.size) W noPl args.toList ⟨spec.args x, spec.ins x, 1, (spec.ins x).length⟩ := by
    rw [hins]
    exact ⟨fun g hg => hg.elim, fun b hb => hb, rfl, Nat.le_refl _, fun t t' g h => (by simp [noPl] at h), fun g hg => hg.elim, fun g hg => (by simp [noPl] at hg), fun r hr => (by simp at hr), ⟨fun _ _ => noFoot, fun t r ob h => (by simp at h), fun _ _ _ => rfl, fun t t' j j' p p' b h => h.elim, fun t j p b h => h.elim, fun t j p b h => h.elim⟩, fun t r h => (by simp at h), a1.symm, fun i v u h1 h2 => a5 i v u h1 h2⟩
  refine (hs.2 x hpre _ W args noPl hsr (fun r hr => by rw [hins] at hr; simp at hr)).mono ?_
  rintro e W' ⟨v, r, ic, news, φ', rfl, hp, hic, _, _, _, hkeep, hsr', _, _⟩
  have hr := hpost r ic news hp
  subst hr
  have hvb := (hsr'.env 0 v _ rfl rfl).bool_inv
  subst hvb
  have hbelow : Below W.heap.size W W' := ⟨hkeep.os, hkeep.tape, hkeep.output, hkeep.size, fun b hb => hkeep.block b ⟨hb, fun h => h⟩⟩
  obtain ⟨f1, f2, f3⟩ := hfn ds a2
  refine ⟨_, rfl, ds, [], p, [], p, [], by rw [hv]; simpa [hv] using hW', ?_, ?_, ?_, hbelow.frame _, fun h => by cases h⟩
  · simp only [List.append_nil]
    rw [f1, hres]
    exact trodAll_mk1 (shut_bool hb true)
  · simp only [List.append_nil]
    rw [f2]
    exact args_stay hl hrd hA (fun x hx => hbelow.same (hltb x hx)) (fun x hx => by simpa using hltb x hx)
  · simp only [List.append_nil]
    rw [f3, hv]
    exact rfl
end
end Go.Am
namespace Go.Am
open Go.RowKit
theorem pureL_take (k : IntKind) (m : Nat) (zs : List Int) : pureL ((zs.map (AV.int k)).take m) = true := by rw [← List.map_take]; exact pureL_ints _ _
theorem pureL_pair (c d n m : Nat) (xs zs : List Int) : pureL [.sl c n (xs.map (.int .i64)), .sl d m (zs.map (.int .i64))] = true := by
  simp [pureL, AV.pure, pureL_ints]
abbrev rowL (t : TypeId) (zs : List Int) : Row := ⟨0, t, 1, zs.map (.int .i64)⟩
def fnT {ι : Type} (t : TypeId) (args : ι → List AV) (pre : ι → Prop) (xs zs : ι → List Int) : CSpec :=
  { ι := ι, inout := [], args := args, ins := fun _ => [], pre := pre, post := fun x r ic news => ic = [] ∧ r = .agg [.ref 0 0 0 (xs x).length, .ref 1 0 0 (zs x).length] ∧ news = [rowL t (xs x), rowL t (zs x)] }
def fnTB {ι : Type} (t : TypeId) (args : ι → List AV) (pre : ι → Prop) (M : ι → List Int × List Int × Bool) : CSpec :=
  { ι := ι, inout := [], args := args, ins := fun _ => [], pre := pre, post := fun x r ic news => ic = [] ∧ r = .tup [.agg [.ref 0 0 0 (M x).1.length, .ref 1 0 0 (M x).2.1.length], .bool (M x).2.2] ∧ news = [rowL t (M x).1, rowL t (M x).2.1] }
theorem callT_in {P : Program} {f : FuncId} {ι : Type} {t : TypeId} {args : ι → List AV} {pre : ι → Prop} {xs zs : ι → List Int} (hs : Sound P f (fnT t args pre xs zs)) (x : ι) (hpre : pre x) {env : List AV} {rows : List Row} {ctr low : Nat} {k : AV → St → Prop}
    (hk : k (.agg [.ref rows.length ctr 0 (xs x).length, .ref (rows.length + 1) ctr 0 (zs x).length]) ⟨env, rows ++ [⟨ctr, t, 1, (xs x).map (.int .i64)⟩, ⟨ctr, t, 1, (zs x).map (.int .i64)⟩], ctr + 1, low⟩) :
    CallB P f ⟨env, rows, ctr, low⟩ (args x) k := callB_in (sp := fnT t args pre xs zs) hs rfl x rfl hpre (by
  rintro r news ⟨-, rfl, rfl⟩
  simpa [AV.back, backL, backT, backV, news_rows2, Nat.add_comm] using hk)
theorem callTB_in {P : Program} {f : FuncId} {ι : Type} {t : TypeId} {args : ι → List AV} {pre : ι → Prop} {M : ι → List Int × List Int × Bool} (hs : Sound P f (fnTB t args pre M)) (x : ι) (hpre : pre x) {env : List AV} {rows : List Row} {ctr low : Nat} {k : AV → St → Prop}
    (hk : k (.tup [.agg [.ref rows.length ctr 0 (M x).1.length, .ref (rows.length + 1) ctr 0 (M x).2.1.length], .bool (M x).2.2]) ⟨env, rows ++ [⟨ctr, t, 1, (M x).1.map (.int .i64)⟩, ⟨ctr, t, 1, (M x).2.1.map (.int .i64)⟩], ctr + 1, low⟩) :
    CallB P f ⟨env, rows, ctr, low⟩ (args x) k := callB_in (sp := fnTB t args pre M) hs rfl x rfl hpre (by
  rintro r news ⟨-, rfl, rfl⟩
  simpa [AV.back, backL, backT, backV, news_rows2, Nat.add_comm] using hk)
theorem retTe {env : List AV} {rows : List Row} {ctr τ1 τ2 v1 v2 n1 n2 : Nat} {t : TypeId} {xs ys xs' ys' : List Int} (hne : τ1 ≠ τ2) (h1 : rows[τ1]? = some ⟨v1, t, 1, xs.map (.int .i64)⟩) (h2 : rows[τ2]? = some ⟨v2, t, 1, ys.map (.int .i64)⟩)
    (e1 : n1 = xs.length) (e2 : n2 = ys.length) (hx : xs = xs') (hy : ys = ys') :
    RetB ⟨env, rows, ctr, 0⟩ [] (fun r ic news => ic = [] ∧ r = .agg [.ref 0 0 0 xs'.length, .ref 1 0 0 ys'.length] ∧ news = [rowL t xs', rowL t ys']) (.agg [.ref τ1 v1 0 n1, .ref τ2 v2 0 n2]) := by
  subst e1; subst e2; subst hx; subst hy
  refine retP1 (Q := fun r news => r = .agg [.ref 0 0 0 xs.length, .ref 1 0 0 ys.length] ∧ news = [rowL t xs, rowL t ys]) (L := [τ1, τ2]) (by simpa using hne) ?_ ?_ ⟨rfl, rfl⟩
  · simp [insOf, h1, h2, protL_ren (protL_ints .i64 xs), protL_ren (protL_ints .i64 ys)]
  · have : (τ1 == τ2) = false := by simpa using hne
    simp [AV.ren, renL, h1, h2, List.idxOf, List.findIdx_cons, this]
theorem retTB {env : List AV} {rows : List Row} {ctr τ1 τ2 v1 v2 n1 n2 : Nat} {t : TypeId} {xs ys : List Int} {b : Bool} {M : List Int × List Int × Bool} (hM : M = (xs, ys, b)) (hne : τ1 ≠ τ2) (h1 : rows[τ1]? = some ⟨v1, t, 1, xs.map (.int .i64)⟩) (h2 : rows[τ2]? = some ⟨v2, t, 1, ys.map (.int .i64)⟩)
    (e1 : n1 = xs.length) (e2 : n2 = ys.length) :
    RetB ⟨env, rows, ctr, 0⟩ [] (fun r ic news => ic = [] ∧ r = .tup [.agg [.ref 0 0 0 M.1.length, .ref 1 0 0 M.2.1.length], .bool M.2.2] ∧ news = [rowL t M.1, rowL t M.2.1]) (.tup [.agg [.ref τ1 v1 0 n1, .ref τ2 v2 0 n2], .bool b]) := by
  subst hM
  subst e1; subst e2
  refine retP1 (Q := fun r news => r = .tup [.agg [.ref 0 0 0 xs.length, .ref 1 0 0 ys.length], .bool b] ∧ news = [rowL t xs, rowL t ys]) (L := [τ1, τ2]) (by simpa using hne) ?_ ?_ ⟨rfl, rfl⟩
  · simp [insOf, h1, h2, protL_ren (protL_ints .i64 xs), protL_ren (protL_ints .i64 ys)]
  · have : (τ1 == τ2) = false := by simpa using hne
    simp [AV.ren, renL, h1, h2, List.idxOf, List.findIdx_cons, this]
theorem retT {env : List AV} {rows : List Row} {ctr τ1 τ2 v1 v2 n1 n2 : Nat} {t : TypeId} {xs ys : List Int} (hne : τ1 ≠ τ2) (h1 : rows[τ1]? = some ⟨v1, t, 1, xs.map (.int .i64)⟩) (h2 : rows[τ2]? = some ⟨v2, t, 1, ys.map (.int .i64)⟩)
    (e1 : n1 = xs.length) (e2 : n2 = ys.length) :
    RetB ⟨env, rows, ctr, 0⟩ [] (fun r ic news => ic = [] ∧ r = .agg [.ref 0 0 0 xs.length, .ref 1 0 0 ys.length] ∧ news = [rowL t xs, rowL t ys]) (.agg [.ref τ1 v1 0 n1, .ref τ2 v2 0 n2]) := retTe hne h1 h2 e1 e2 rfl rfl
def fnIB {ι : Type} (args : ι → List AV) (pre : ι → Prop) (M : ι → Int × Bool) : CSpec :=
  { ι := ι, inout := [], args := args, ins := fun _ => [], pre := pre, post := fun x r ic news => ic = [] ∧ r = .tup [.int .i64 (M x).1, .bool (M x).2] ∧ news = [] }
theorem callIB_in {P : Program} {f : FuncId} {ι : Type} {args : ι → List AV} {pre : ι → Prop} {M : ι → Int × Bool} (hs : Sound P f (fnIB args pre M)) (x : ι) (hpre : pre x) {env : List AV} {rows : List Row} {ctr low : Nat} {k : AV → St → Prop}
    (hk : k (.tup [.int .i64 (M x).1, .bool (M x).2]) ⟨env, rows, ctr + 1, low⟩) : CallB P f ⟨env, rows, ctr, low⟩ (args x) k := callB_in (sp := fnIB args pre M) hs rfl x rfl hpre (by
  rintro r news ⟨-, rfl, rfl⟩
  simpa [AV.back, backL, St.news] using hk)
theorem retIB {env : List AV} {rows : List Row} {ctr : Nat} {v : Int} {b : Bool} {M : Int × Bool} (h : M = (v, b)) : RetB ⟨env, rows, ctr, 0⟩ [] (fun r ic news => ic = [] ∧ r = .tup [.int .i64 M.1, .bool M.2] ∧ news = []) (.tup [.int .i64 v, .bool b]) := by
  subst h
  exact retP1 (Q := fun r news => r = .tup [.int .i64 v, .bool b] ∧ news = []) (L := []) (by simp) rfl rfl ⟨rfl, rfl⟩
theorem retKeep2 {env : List AV} {ctr : Nat} {t : TypeId} {xs zs us vs : List Int} {v1 v2 n1 n2 : Nat} {rest : List Row} {b : Bool} {post : AV → List (List AV) → List Row → Prop} (hp : post (.tup [.agg [.ref 0 0 0 n1, .ref 1 0 0 n2], .bool b]) [us.map (.int .i64), vs.map (.int .i64)] []) :
    RetB ⟨env, ⟨v1, t, 1, us.map (.int .i64)⟩ :: ⟨v2, t, 1, vs.map (.int .i64)⟩ :: rest, ctr, 2⟩ [⟨0, t, 1, xs.map (.int .i64)⟩, ⟨0, t, 1, zs.map (.int .i64)⟩] post (.tup [.agg [.ref 0 v1 0 n1, .ref 1 v2 0 n2], .bool b]) := by
  refine RetB1.ret ⟨[], [⟨0, t, 1, us.map (.int .i64)⟩, ⟨0, t, 1, vs.map (.int .i64)⟩], _, [us.map (.int .i64), vs.map (.int .i64)], [], (show ([0, 1] : List Nat).Nodup by decide), ?_, ?_, rfl, rfl, hp⟩
  · show insOf _ [0, 1] [0, 1] = _
    simp [insOf, protL_ren (protL_ints .i64 us), protL_ren (protL_ints .i64 vs)]
  · show AV.ren _ [0, 1] _ = _
    simp [AV.ren, renL, List.idxOf, List.findIdx_cons]
theorem retNew2 {env : List AV} {ctr : Nat} {t : TypeId} {xs zs us vs ps qs : List Int} {v1 v2 n3 n4 τ3 τ4 v3 v4 : Nat} {rest : List Row} {b : Bool} {post : AV → List (List AV) → List Row → Prop} (hne : τ3 ≠ τ4) (h3 : rest[τ3]? = some ⟨v3, t, 1, ps.map (.int .i64)⟩) (h4 : rest[τ4]? = some ⟨v4, t, 1, qs.map (.int .i64)⟩)
    (hp : post (.tup [.agg [.ref 2 0 0 n3, .ref 3 0 0 n4], .bool b]) [us.map (.int .i64), vs.map (.int .i64)] [rowL t ps, rowL t qs]) :
    RetB ⟨env, ⟨v1, t, 1, us.map (.int .i64)⟩ :: ⟨v2, t, 1, vs.map (.int .i64)⟩ :: rest, ctr, 2⟩ [⟨0, t, 1, xs.map (.int .i64)⟩, ⟨0, t, 1, zs.map (.int .i64)⟩] post (.tup [.agg [.ref (τ3 + 1 + 1) v3 0 n3, .ref (τ4 + 1 + 1) v4 0 n4], .bool b]) := by
  have hb : (τ3 == τ4) = false := by simpa using hne
  refine RetB1.ret ⟨[τ3 + 1 + 1, τ4 + 1 + 1], [⟨0, t, 1, us.map (.int .i64)⟩, ⟨0, t, 1, vs.map (.int .i64)⟩, rowL t ps, rowL t qs], _, [us.map (.int .i64), vs.map (.int .i64)], [rowL t ps, rowL t qs], (show ([0, 1, τ3 + 1 + 1, τ4 + 1 + 1] : List Nat).Nodup by simpa using hne), ?_, ?_, rfl, rfl, hp⟩
  · show insOf _ [0, 1, τ3 + 1 + 1, τ4 + 1 + 1] [0, 1, τ3 + 1 + 1, τ4 + 1 + 1] = _
    simp [insOf, h3, h4, protL_ren (protL_ints .i64 us), protL_ren (protL_ints .i64 vs), protL_ren (protL_ints .i64 ps), protL_ren (protL_ints .i64 qs)]
  · show AV.ren _ [0, 1, τ3 + 1 + 1, τ4 + 1 + 1] _ = _
    simp [AV.ren, renL, h3, h4, List.idxOf, List.findIdx_cons, hb]
theorem flat_ints {P : Program} {e : TypeId} {k : IntKind} (he : P.underlying e = some (.int k)) : ∀ (es : List (List AV)), (∀ us ∈ es, CellsOk P e us) → ∃ zs : List Int, es.flatten = zs.map (.int k) ∧ zs.length = es.length ∧ ∀ z ∈ zs, (Lit.int k z).wf = true
  | [], _ => ⟨[], rfl, rfl, fun z h => by simp at h⟩
  | us :: es, h => by
    obtain ⟨zs, h1, h2, h3⟩ := flat_ints he es fun u hu => h u (List.mem_cons_of_mem _ hu)
    have hu := h us List.mem_cons_self
    cases hu with
    | int _ k' n ht hn =>
      rw [he] at ht; cases ht
      exact ⟨n :: zs, by simp [h1], by simp [h2], fun z hz => by
        rcases List.mem_cons.1 hz with rfl | hz
        · exact hn
        · exact h3 z hz⟩
    | bool _ b ht => rw [he] at ht; cases ht
    | str _ s ht hs => rw [he] at ht; cases ht
    | sl _ e' es' ht hz hes => rw [he] at ht; cases ht
    | struct _ fs us ht hl hf => rw [he] at ht; cases ht
theorem cellsInts {P : Program} {t e : TypeId} {k : IntKind} {us : List AV} (hu : P.underlying t = some (.slice e)) (he : P.underlying e = some (.int k)) (h : CellsOk P t us) : ∃ zs : List Int, us = [.sl 1 zs.length (zs.map (.int k))] ∧ ∀ z ∈ zs, (Lit.int k z).wf = true := by
  cases h with
  | int _ k' n ht hn => rw [hu] at ht; cases ht
  | bool _ b ht => rw [hu] at ht; cases ht
  | str _ s ht hs => rw [hu] at ht; cases ht
  | sl _ e' es ht hz hes =>
    rw [hu] at ht; cases ht
    obtain ⟨zs, h1, h2, h3⟩ := flat_ints he es hes
    exact ⟨zs, by rw [h1, h2], h3⟩
  | struct _ fs us ht hl hf => rw [hu] at ht; cases ht
end Go.Am
