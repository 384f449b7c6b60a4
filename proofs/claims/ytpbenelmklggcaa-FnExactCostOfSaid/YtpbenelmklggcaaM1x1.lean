import Derived.Test.YtpbenelmklggcaaM012x12
import Derived.Test.YtpbenelmklggcaaM012x22
import Derived.Test.YtpbenelmklggcaaM12x1
/- The abstract machine, part X: calls that a driver leaves, rows that change places, slices of slices from where they are. -/
namespace Go.Am
open Go.RowKit
/-- What a driver leaves. -/
def Held (p : Prop) : Prop := p
theorem held_in {P : Program} {f : FuncId} {s : St} {a : List AV} {k : AV → St → Prop} (h : Held (CallG P f s a k)) : CallG P f s a k := h
theorem held_out {p : Prop} (h : p) : Held p := h
theorem callG_eq {P : Program} {f : FuncId} {s : St} {a b : List AV} {k : AV → St → Prop} (h : a = b) (hk : CallG P f s b k) : CallG P f s a k := h ▸ hk
/-- A call whose arguments are trees of rows. -/
theorem callG_tree {P : Program} {f : FuncId} {s : St} {args us : List AV} {k : AV → St → Prop} (h1 : callArgs s [] [] args = some us) (h : CallB P f s us k) : CallG P f s args k := by
  obtain ⟨sp, hs, hio, x, rfl, hins, hpre, hk⟩ := h
  refine callG_x ⟨[], sp, hs, sp.args x, [], List.nodup_nil, by rw [hio]; exact h1, rfl, x, rfl, hins.symm, hpre, fun r ic news hp hic => ?_⟩
  have : ic = [] := List.eq_nil_of_length_eq_zero (by simpa using hic)
  subst this
  exact hk r news hp
/-- Two rows change their places. -/
theorem to_swap {s s' : St} (i j : Nat) (bs : List Bool) (ri rj : Row) (hi : s.rows[i]? = some ri) (hj : s.rows[j]? = some rj) (hne : i ≠ j) (hli : s.low ≤ i) (hlj : s.low ≤ j)
    (h : (s.swapAt i j bs ri rj).to s') : s.to s' := by
  obtain ⟨s1, h1, h2⟩ := h
  exact ⟨s1, .swap s s1 i j bs ri rj hi hj hne hli hlj h1, h2⟩
/-- What a cell has for itself gets a name. -/
theorem to_open {s s' : St} (τ j : Nat) (r : Row) (e : TypeId) (z n : Nat) (cs : List AV) (hr : s.rows[τ]? = some r) (hc : r.cells[j]? = some (.own e z n cs))
    (h : (s.openAt τ j r e z n cs).to s') : s.to s' := by
  obtain ⟨s1, h1, h2⟩ := h
  exact ⟨s1, .opn s s1 τ j r e z n cs hr hc h1, h2⟩

/-! Lists of numbers, each from where it is. -/
abbrev ML := List (Nat × List Int)
def mlC (x : Nat × List Int) : AV := slI x.1 x.2
theorem mlC_pure (x : Nat × List Int) : (mlC x).pure = true := slI_pure _ _
theorem ml_all (g : Nat) (fs : List (List Int)) : (fs.map fun f => (g, f)).map mlC = fs.map (slI g) := by
  rw [List.map_map]; rfl
theorem ml_snd (g : Nat) (fs : List (List Int)) : (fs.map fun f => (g, f)).map Prod.snd = fs := by
  rw [List.map_map]; exact List.map_id _
theorem ml_getD (M : ML) (k : Nat) : (M.map Prod.snd).getD k [] = (M.getD k (0, [])).2 := by
  simp only [List.getD, List.getElem?_map]
  cases M[k]? <;> rfl
theorem pureL_ml (M : ML) : pureL (M.map mlC) = true := pureL_map mlC_pure _
theorem get_ml_n {k : Nat} {M : ML} {K : AV → Prop} (h : k < M.length) (hK : K (mlC (M.getD k (0, [])))) : aGet ((M.map mlC).drop ((k : Int).toNat * 1)) 0 K := get_map _ (by simp) h hK
theorem get_ml {i : Int} {M : ML} {K : AV → Prop} (h : 0 ≤ i ∧ i < M.length) (hK : K (mlC (M.getD i.toNat (0, [])))) : aGet ((M.map mlC).drop (i.toNat * 1)) 0 K := get_map _ (by simp) (by omega) hK
theorem tr_ml {f : Nat} (x : Nat × List Int) : AV.tr (f + 1) (mlC x) = some (mlC x) := by
  show (if (mlC x).pure = true then some (mlC x) else none) = some (mlC x)
  rw [if_pos (mlC_pure x)]
theorem trL_ml {f : Nat} (M : ML) : (M.map mlC).mapM (AV.tr (f + 1)) = some (M.map mlC) := trL_map (fun x => tr_ml x) M
theorem cut_ml {f : Nat} {M : ML} {m : Nat} {k : List AV → Prop} (hm : m = M.length) (hk : k (M.map mlC)) : aCut (f + 1) (M.map mlC) 0 (m * 1) k := cut_tr (by simp [hm]) (trL_ml M) hk
end Go.Am

/- The abstract machine, part Y: what is so for arguments that stay is so for all, if only what is the call's own comes back. -/
namespace Go.Am
open Go.RowKit

mutual
/-- Without slices of others. -/
def AV.bare : AV → Bool
  | .sl _ _ _ => false
  | .rd _ => false
  | .tup cs => bareL cs
  | .agg cs => bareL cs
  | .own _ _ _ cs => bareL cs
  | .ref _ _ _ _ => true
  | .ptr _ _ _ => true
  | .un => true
  | .int _ _ => true
  | .bool _ => true
  | .str _ => true
  | .nil => true
def bareL : List AV → Bool
  | [] => true
  | u :: us => u.bare && bareL us
end
theorem bareL_get : ∀ {us : List AV} {j : Nat} {u : AV}, bareL us = true → us[j]? = some u → u.bare = true
  | [], j, u, _, h => by simp at h
  | x :: us, j, u, hp, h => by
    simp only [bareL, Bool.and_eq_true] at hp
    cases j with
    | zero => simp at h; subst h; exact hp.1
    | succ j => exact bareL_get hp.2 (by simpa using h)
theorem bareL_app : ∀ {us vs : List AV}, bareL us = true → bareL vs = true → bareL (us ++ vs) = true
  | [], _, _, h => h
  | u :: us, vs, h, h' => by
    have h : (u.bare && bareL us) = true := h
    rw [Bool.and_eq_true] at h
    show (u.bare && bareL (us ++ vs)) = true
    rw [h.1, bareL_app h.2 h']; rfl
theorem bareL_map {α : Type} {f : α → AV} (h : ∀ x, (f x).bare = true) : ∀ (l : List α), bareL (l.map f) = true
  | [] => rfl
  | x :: l => by rw [List.map_cons]; show ((f x).bare && bareL (l.map f)) = true; rw [h, bareL_map h l]; rfl
theorem bareL_flat {α : Type} {f : α → List AV} (h : ∀ x, bareL (f x) = true) : ∀ (l : List α), bareL (l.flatMap f) = true
  | [] => rfl
  | x :: l => by rw [List.flatMap_cons]; exact bareL_app (h x) (bareL_flat h l)
theorem bareL_ints (k : IntKind) (zs : List Int) : bareL (zs.map (.int k)) = true := bareL_map (fun _ => rfl) zs
theorem ownI_bare (t : TypeId) (xs : List Int) : (ownI t xs).bare = true := bareL_ints _ _
theorem bareL_oi (t : TypeId) (xss : List (List Int)) : bareL (xss.map (ownI t)) = true := bareL_map (ownI_bare t) _
theorem bareL_ond (t : TypeId) (ns : List Nd) : bareL (ns.flatMap (ndO t)) = true := bareL_flat (fun n => by simp [ndO, bareL, AV.bare, ownI_bare]) _

mutual
/-- The same, of what stays. -/
def AV.one : AV → AV
  | .sl _ n cs => .sl 1 n (oneL cs)
  | .tup cs => .tup (oneL cs)
  | .agg cs => .agg (oneL cs)
  | .rd cs => .rd (oneL cs)
  | .own e z n cs => .own e z n cs
  | .ref t v o n => .ref t v o n
  | .ptr t v o => .ptr t v o
  | .un => .un
  | .int k n => .int k n
  | .bool b => .bool b
  | .str s => .str s
  | .nil => .nil
def oneL : List AV → List AV
  | [] => []
  | u :: us => u.one :: oneL us
end
theorem oneL_length : ∀ (us : List AV), (oneL us).length = us.length
  | [] => rfl
  | u :: us => by simp [oneL, oneL_length us]
theorem oneL_get : ∀ (us : List AV) (j : Nat), (oneL us)[j]? = (us[j]?).map AV.one
  | [], j => by simp [oneL]
  | x :: us, j => by
    cases j with
    | zero => simp [oneL]
    | succ j => simpa [oneL] using oneL_get us j
theorem oneL_app : ∀ (us vs : List AV), oneL (us ++ vs) = oneL us ++ oneL vs
  | [], vs => rfl
  | u :: us, vs => by show u.one :: oneL (us ++ vs) = u.one :: (oneL us ++ oneL vs); rw [oneL_app us vs]
theorem oneL_map {α : Type} {f g : α → AV} (h : ∀ x, (f x).one = g x) : ∀ (l : List α), oneL (l.map f) = l.map g
  | [] => rfl
  | x :: l => by show (f x).one :: oneL (l.map f) = g x :: l.map g; rw [h, oneL_map h l]
theorem oneL_flat {α : Type} {f g : α → List AV} (h : ∀ x, oneL (f x) = g x) : ∀ (l : List α), oneL (l.flatMap f) = l.flatMap g
  | [] => rfl
  | x :: l => by rw [List.flatMap_cons, List.flatMap_cons, oneL_app, h, oneL_flat h l]
theorem oneL_ints (k : IntKind) (zs : List Int) : oneL (zs.map (.int k)) = zs.map (.int k) := oneL_map (fun _ => rfl) zs
theorem slI_one (c : Nat) (xs : List Int) : (slI c xs).one = slI 1 xs := by
  show AV.sl 1 xs.length (oneL (xs.map (.int .i64))) = _
  rw [oneL_ints]; rfl
theorem oneL_ii (c : Nat) (xss : List (List Int)) : oneL (xss.map (slI c)) = xss.map (slI 1) := oneL_map (slI_one c) _
theorem oneL_nd (c : Nat) (ns : List Nd) : oneL (ns.flatMap (ndC c)) = ns.flatMap (ndC 1) := oneL_flat (fun n => by
  show [AV.int .i64 n.op, AV.int .i64 n.a, AV.int .i64 n.b, (slI c n.l).one] = _
  rw [slI_one]; rfl) _

section
variable {D D' : Nat → Prop} {w : World} {φ : Places} {rows : List Row} {ctr : Nat}
theorem VR.chD {v : Value} {u : AV} (h : VR D w φ rows ctr v u) (hb : u.bare = true) : VR D' w φ rows ctr v u := by
  induction h with
  | un v => exact .un v
  | int k n => exact .int k n
  | bool b => exact .bool b
  | str s => exact .str s
  | nil => exact .nil
  | sl0 A cap c hm => exact .sl0 A cap c hm
  | sl ad c n cap cells vs hs hF hD hlt hn hm hl hc h1 hv ih => simp [AV.bare] at hb
  | rd ad cells vs hs hF hlt hl hc h1 hv ih => simp [AV.bare] at hb
  | agg cs cells hl h1 hv ih =>
    simp only [AV.bare] at hb
    exact .agg cs cells hl h1 (fun j v u hv' hu => ih j v u hv' hu (bareL_get hb hu))
  | tup vs us hl hv ih =>
    simp only [AV.bare] at hb
    exact .tup vs us hl (fun j v u hv' hu => ih j v u hv' hu (bareL_get hb hu))
  | ref t ver off n v hlt h1 h => exact .ref t ver off n v hlt h1 h
  | ptr t ver off v hlt h1 h => exact .ptr t ver off v hlt h1 h
theorem CV.chD {v : Value} {u : AV} {F : Foot} (h : CV D w φ rows ctr v u F) (hb : u.bare = true) : CV D' w φ rows ctr v u F := by
  induction h with
  | vr v u h => exact .vr v u (h.chD hb)
  | own0 e z hz => exact .own0 e z hz
  | own e z n g cap cur cells vs F hz hg hs hn hm hl hv hF hc ih =>
    simp only [AV.bare] at hb
    exact .own e z n g cap cur cells vs F hz hg hs hn hm hl hv hF fun j u hu => ih j u hu (bareL_get hb hu)
theorem VR.one {v : Value} {u : AV} (h : VR D w φ rows ctr v u) (hD' : ∀ b, b < w.heap.size → ¬ φ.O b → D' b) : VR D' w φ rows ctr v u.one := by
  induction h with
  | un v => exact .un v
  | int k n => exact .int k n
  | bool b => exact .bool b
  | str s => exact .str s
  | nil => exact .nil
  | sl0 A cap c hm => exact .sl0 A cap 1 hm
  | sl ad c n cap cells vs hs hF hD hlt hn hm hl hc h1 hv ih =>
    refine .sl ad 1 n cap (oneL cells) vs hs hF (fun _ => hD' _ hlt hF) hlt hn hm (by rw [oneL_length]; exact hl) hc h1 (fun j v u hv' hu => ?_)
    rw [oneL_get, Option.map_eq_some_iff] at hu
    obtain ⟨u', hu', rfl⟩ := hu
    exact ih j v u' hv' hu'
  | rd ad cells vs hs hF hlt hl hc h1 hv ih =>
    refine .rd ad (oneL cells) vs hs hF hlt (by rw [oneL_length]; exact hl) hc h1 (fun j v u hv' hu => ?_)
    rw [oneL_get, Option.map_eq_some_iff] at hu
    obtain ⟨u', hu', rfl⟩ := hu
    exact ih j v u' hv' hu'
  | agg cs cells hl h1 hv ih =>
    refine .agg cs (oneL cells) (by rw [oneL_length]; exact hl) h1 (fun j v u hv' hu => ?_)
    rw [oneL_get, Option.map_eq_some_iff] at hu
    obtain ⟨u', hu', rfl⟩ := hu
    exact ih j v u' hv' hu'
  | tup vs us hl hv ih =>
    refine .tup vs (oneL us) (by rw [oneL_length]; exact hl) (fun j v u hv' hu => ?_)
    rw [oneL_get, Option.map_eq_some_iff] at hu
    obtain ⟨u', hu', rfl⟩ := hu
    exact ih j v u' hv' hu'
  | ref t ver off n v hlt h1 h => exact .ref t ver off n v hlt h1 h
  | ptr t ver off v hlt h1 h => exact .ptr t ver off v hlt h1 h
end

/-- What holds of arguments that stay holds of all, if what comes back is the call's own. -/
theorem sound_one {P : Program} {f : FuncId} {sp : CSpec} (args0 : sp.ι → List AV) (hs : Sound P f sp) (hins : ∀ x, sp.ins x = []) (ha : ∀ x, sp.args x = oneL (args0 x))
    (hb : ∀ x r ic news, sp.post x r ic news → r.bare = true ∧ ∀ n ∈ news, bareL n.cells = true) : Sound P f { sp with args := args0 } := by
  refine ⟨hs.1, fun x hpre D w vs φ hsr hver => ?_⟩
  have hsr : SR D w φ vs.toList ⟨args0 x, sp.ins x, 1, (sp.ins x).length⟩ := hsr
  obtain ⟨ω, hne⟩ := hsr.nest
  have hi := hins x
  have hsr' : SR (fun b => b < w.heap.size ∧ ¬ φ.O b) w φ vs.toList ⟨sp.args x, sp.ins x, 1, (sp.ins x).length⟩ :=
    ⟨fun g hg hD => hD.2 hg, fun b hb => hb.1, hsr.len, hsr.lo, hsr.inj, hsr.lt, hsr.occ, hsr.ver,
      ⟨ω, fun t r ob hr => by (have hr : (sp.ins x)[t]? = some r := hr; rw [hi] at hr; simp at hr), hne.out, hne.ap⟩, hsr.sz0,
      by show vs.toList.length = (sp.args x).length; rw [ha, oneL_length]; exact hsr.elen, fun i v u hv hu => by
        have hu : (sp.args x)[i]? = some u := hu
        rw [ha, oneL_get, Option.map_eq_some_iff] at hu
        obtain ⟨u', hu', rfl⟩ := hu
        exact (hsr.env i v u' hv hu').one fun b h1 h2 => ⟨h1, h2⟩⟩
  refine (hs.2 x hpre _ w vs φ hsr' (fun r hr => by rw [hi] at hr; simp at hr)).mono ?_
  rintro e w' ⟨v, r, ic, news, φ', rfl, hp, hic, hicp, hnews, hres, hkeep, hsr2, hlow, hfresh⟩
  obtain ⟨b1, b2⟩ := hb x r ic news hp
  obtain ⟨ω', hne'⟩ := hsr2.nest
  have hrows : upd (sp.ins x) ic ++ news = news := by rw [hi]; simp [upd]
  refine ⟨v, r, ic, news, φ', rfl, hp, hic, hicp, hnews, hres, hkeep, ?_, hlow, hfresh⟩
  refine ⟨fun g hg hD => ?_, fun b hb => Nat.lt_of_lt_of_le (hsr.dlt b hb) hkeep.size, hsr2.len, hsr2.lo, hsr2.inj, hsr2.lt, hsr2.occ, hsr2.ver,
    ⟨ω', fun t r0 ob hr hob => ?_, hne'.out, hne'.ap⟩, hsr2.sz0, hsr2.elen, fun i v' u hv hu => ?_⟩
  · rcases hfresh g hg with h | h
    · exact hsr.dis g h hD
    · have := hsr.dlt g hD; omega
  · have hrow := hne'.row t r0 ob hr hob
    have hr' : news[t]? = some r0 := by rw [← hrows]; exact hr
    have hbr := b2 r0 (List.mem_of_getElem? hr')
    cases ob with
    | none => exact hrow
    | some g =>
      obtain ⟨cur, d1, d2, d3, d4⟩ := hrow
      exact ⟨cur, d1, d2, d3, fun j u hu => by
        obtain ⟨v', f1, f2, f3⟩ := d4 j u hu
        exact ⟨v', f1, f2, f3.chD (bareL_get hbr hu)⟩⟩
  · have hu' : [r][i]? = some u := hu
    have e : u = r := by
      cases i with
      | zero => simpa using hu'.symm
      | succ i => simp at hu'
    exact (hsr2.env i v' u hv hu).chD (by rw [e]; exact b1)

/-! Nodes, each from where it is. -/
abbrev MN := List (Nat × Nd)
def mnC (x : Nat × Nd) : List AV := ndC x.1 x.2
theorem mnC_length (x : Nat × Nd) : (mnC x).length = 4 := rfl
theorem mnC_pure (x : Nat × Nd) : pureL (mnC x) = true := ndC_pure _ _
theorem mn_all (g : Nat) (ns : List Nd) : (ns.map fun n => (g, n)).flatMap mnC = ns.flatMap (ndC g) := by
  rw [List.flatMap_map]; rfl
theorem mn_snd (g : Nat) (ns : List Nd) : (ns.map fun n => (g, n)).map Prod.snd = ns := by
  rw [List.map_map]; exact List.map_id _
theorem mn_getD (M : MN) (k : Nat) : (M.map Prod.snd).getD k default = (M.getD k default).2 := by
  simp only [List.getD, List.getElem?_map]
  cases M[k]? <;> rfl
theorem pureL_mn (M : MN) : pureL (M.flatMap mnC) = true := pureL_flat mnC_pure _
theorem get_mn_n {k j : Nat} {M : MN} {u : AV} {K : AV → Prop} (h : k < M.length) (hj : (mnC (M.getD k default))[j]? = some u) (hK : K u) : aGet (((M.flatMap mnC).drop ((k : Int).toNat * 4)).drop j) 0 K := get_flat mnC_length default (by rw [Int.toNat_natCast]) h hj hK
theorem part_mn_n {k : Nat} {M : MN} {K : AV → Prop} (h : k < M.length) (hk : K (.agg (mnC (M.getD k default)))) :
    aTakeN 4 ((M.flatMap mnC).drop ((k : Int).toNat * 4)) K := part_flat mnC_length (fun _ => rfl) default (by rw [Int.toNat_natCast]) h hk
theorem tr_mnC {f : Nat} (x : Nat × Nd) : (mnC x).mapM (AV.tr (f + 2)) = some (mnC x) := by
  have e : AV.tr (f + 2) (slI x.1 x.2.l) = some (slI x.1 x.2.l) := by
    show (if (slI x.1 x.2.l).pure = true then some (slI x.1 x.2.l) else none) = some _
    rw [if_pos (slI_pure _ _)]
  show ([AV.int .i64 x.2.op, AV.int .i64 x.2.a, AV.int .i64 x.2.b, slI x.1 x.2.l]).mapM (AV.tr (f + 2)) = _
  simp only [List.mapM_cons, List.mapM_nil, e]
  rfl
end Go.Am

/- Chapter 6: CostOf of both sides. -/
namespace Go.Am
open Go.RowKit
theorem mapM_set {g : AV → Option AV} : ∀ {l l' : List AV} {k : Nat} {u u' : AV}, l.mapM g = some l' → l'[k]? = some u' → g u = some u' → (l.set k u).mapM g = some l'
  | [], l', k, u, u', h, h', _ => by
    have : l' = [] := by simpa using h.symm
    subst this; simp at h'
  | x :: l, l', k, u, u', h, h', hg => by
    simp only [List.mapM_cons, Option.pure_def, Option.bind_eq_bind, Option.bind_eq_some_iff, Option.some.injEq] at h
    obtain ⟨y, h1, ys, h2, rfl⟩ := h
    cases k with
    | zero =>
      simp at h'
      subst h'
      exact mapM_next hg h2
    | succ k => exact mapM_next h1 (mapM_set h2 (by simpa using h') hg)
/-- A row of lists, one of which has a name, as a tree. -/
theorem treeL_set {s : St} {t t' : TypeId} {ss : List (List Int)} {k o n m τ v f : Nat} (ho : o = k) (hk : k < ss.length) (hr : s.rows[τ]? = some ⟨v, t', 1, (ss.getD k []).map (.int .i64)⟩) (hm : m = (ss.getD k []).length) (hn : n = ss.length) :
    ((((ss.map (ownI t)).set o (.ref τ v 0 m)).drop 0).take (n * 1)).mapM (s.tree [] (f + 2)) = some (ss.map (slI 0)) := by
  subst ho; subst hm
  rw [List.drop_zero, List.take_of_length_le (by simp; omega)]
  refine mapM_set (u' := slI 0 (ss.getD o [])) ?_ ?_ ?_
  · exact mapM_imp (fun a b e => tr_tree (f + 2) a b e) (trL_map (tr_ownI f t) ss)
  · rw [List.getElem?_map, getD_eq (d := []) hk]; rfl
  · refine tree_ref hr ⟨rfl, by simp, by simp⟩ ?_
    rw [List.drop_zero, Nat.mul_one, List.take_of_length_le (by simp)]
    exact scalL_tree (scalL_ints _ _)
theorem tree_ints {s : St} {t : TypeId} {zs : List Int} {τ v f : Nat} (hr : s.rows[τ]? = some ⟨v, t, 1, zs.map (.int .i64)⟩) : s.tree [] (f + 2) (.ref τ v 0 zs.length) = some (slI 0 zs) := by
  refine tree_ref hr ⟨rfl, by simp, by simp⟩ ?_
  rw [List.drop_zero, Nat.mul_one, List.take_of_length_le (by simp)]
  exact scalL_tree (scalL_ints _ _)
theorem tree_nd {s : St} {c f : Nat} {x : Nd} : s.tree [] (f + 2) (.agg (ndC c x)) = some (.agg (ndC c x)) := by
  refine tree_agg ?_
  exact mapM_next rfl (mapM_next rfl (mapM_next rfl (mapM_next (tree_sl (pureL_ints _ _)) rfl)))
/-- A node, a row of lists of which one has a name, and that one, as trees. -/
theorem callArgs_nls {env : List AV} {rows : List Row} {ctr low c k o τ v τ2 v2 n m : Nat} {t t' ti : TypeId} {x : Nd} {ss : List (List Int)} (h1 : rows[τ]? = some ⟨v, t, 1, (ss.map (ownI ti)).set o (.ref τ2 v2 0 m)⟩) (h2 : rows[τ2]? = some ⟨v2, t', 1, (ss.getD k []).map (.int .i64)⟩)
    (ho : o = k) (hk : k < ss.length) (hn : n = ss.length) (hm : m = (ss.getD k []).length) :
    callArgs ⟨env, rows, ctr, low⟩ [] [] [.agg (ndC c x), .ref τ v 0 n, .ref τ2 v2 0 m] = some [.agg (ndC c x), .sl 0 n (ss.map (slI 0)), slI 0 (ss.getD k [])] := by
  subst hn; subst hm
  refine callArgs_next tree_nd (callArgs_next ?_ (callArgs_next (tree_ints h2) rfl))
  exact tree_ref (f := 3) h1 ⟨rfl, by simp, by simp⟩ (treeL_set (f := 1) ho hk h2 rfl rfl)
theorem le_again {α : Type} {f : α → AV} {l : List α} (d : α) {o k : Nat} {r x : AV} {p : Prop} (ho : o = k) (hk : k < l.length) (hx : x = f (l.getD k d)) (hf : ∀ x, (f x).pure = true) : (pureL (((l.map f).set o r).set o x) = true ∧ l.map f = ((l.map f).set o r).set o x) ∨ p := by
  subst ho
  refine le_cells ?_ (pureL_map hf _)
  rw [List.set_set, hx]
  have e : (l.map f)[o]? = some (f (l.getD o d)) := by rw [List.getElem?_map, getD_eq (d := d) hk]; rfl
  refine List.ext_getElem? fun j => ?_
  rw [List.getElem?_set]
  by_cases hj : o = j
  · subst hj
    rw [if_pos rfl, if_pos (List.getElem?_eq_some_iff.1 e).1, e]
  · rw [if_neg hj]
end Go.Am
-- @slim getb_n | get_oi
namespace Go.Proofs.Ytpbenelmklggcaa
set_option maxRecDepth 20000
open Go.RowKit Go.Am
set_option linter.unusedSimpArgs false
attribute [local irreducible] aPlan aGet aIf aLoop aCall RetB NextB CallB CallG aCut aSet aAppend Held
def ncV (x : Nd) (ss : List (List Int)) (sh : List Int) : Int := if 2 ≤ x.op ∧ x.op ≤ 6 then countOf sh else if x.op = 7 then countOf (shA x ss) else if x.op = 12 then IntKind.i64.wrap (countOf sh * (shA x ss).getD (Int.toNat 1) 0) else 0
theorem ncV_p {x : Nd} {ss : List (List Int)} {sh : List Int} (h : 2 ≤ x.op ∧ x.op ≤ 6) : ncV x ss sh = countOf sh := if_pos h
theorem ncV_7 {x : Nd} {ss : List (List Int)} {sh : List Int} (h : x.op = 7) : ncV x ss sh = countOf (shA x ss) := by unfold ncV; rw [if_neg (by omega), if_pos h]
theorem ncV_12 {x : Nd} {ss : List (List Int)} {sh : List Int} (h : x.op = 12) : ncV x ss sh = IntKind.i64.wrap (countOf sh * (shA x ss).getD (Int.toNat 1) 0) := by unfold ncV; rw [if_neg (by omega), if_neg (by omega), if_pos h]
theorem ncV_0 {x : Nd} {ss : List (List Int)} {sh : List Int} (h : ¬ (2 ≤ x.op ∧ x.op ≤ 6) ∧ x.op ≠ 7 ∧ x.op ≠ 12) : ncV x ss sh = 0 := by unfold ncV; rw [if_neg h.1, if_neg h.2.1, if_neg h.2.2]
set_option maxHeartbeats 8000000 in
theorem nodeCost_sound : Sound Try.prog 31 (fnS (ι := Nat × Nd × Nat × List (List Int) × Nat × List Int) (fun | (c, x, d, ss, e, sh) => [.agg [.int .i64 x.op, .int .i64 x.a, .int .i64 x.b, .sl c x.l.length (x.l.map (.int .i64))], .sl d ss.length (ss.map (slI d)), .sl e sh.length (sh.map (.int .i64))]) (fun | (_, x, _, ss, _, _) => ((x.op = 7 ∨ x.op = 12) → 0 ≤ x.a ∧ x.a < ss.length) ∧ (x.op = 12 → (shA x ss).length = 2)) (fun | (_, x, _, ss, _, sh) => .int .i64 (ncV x ss sh))) := by
  refine sound_of Try.func31 rfl (enters_of Try.func31 (by kernel_rfl) (by kernel_rfl)) ?_
  rintro ⟨c, x, d, ss, e, sh⟩ hpre
  obtain ⟨h1, h2⟩ : ((x.op = 7 ∨ x.op = 12) → 0 ≤ x.a ∧ x.a < ss.length) ∧ (x.op = 12 → (shA x ss).length = 2) := hpre
  have hmax : maxLen = 9223372036854775807 := rfl
  have t1 : Int.toNat 1 = 1 := rfl
  by_cases hp : 2 ≤ x.op ∧ x.op ≤ 6
  · have hv := ncV_p (ss := ss) (sh := sh) hp
    conv => whnf
    repeat' (first
      | (refine plan_in (id := 11) [0, 2, 3, 4, 5, 6, 7, 8, 1, 9, 10] (by kernel_rfl) (by kernel_rfl) ?_; conv => whnf)
      | (refine get_nat (by omega) ?_; conv => whnf)
      | (refine aGet_in rfl ?_; conv => whnf)
      | (refine And.intro (by omega) ?_; conv => whnf)
      | (refine And.intro rfl (And.intro (List.cons_ne_nil _ _) ?_); conv => whnf)
      | (refine callG_t ?_; conv => whnf)
      | (refine append_same ?_; conv => whnf)
      | (refine get_ii_n (by omega) ?_; conv => whnf)
      | (refine And.intro (pureL_ints _ _) ?_; conv => whnf)
      | (refine iCountOf_call ?_; conv => whnf)
      | (refine aIf_dec (fun _ => ?_) (fun _ => ?_) <;> conv => whnf))
    all_goals (first | (exfalso; omega) | contradiction | skip)
    all_goals exact retS rfl (int_eq hv.symm)
  · by_cases h7 : x.op = 7
    · have ha := h1 (.inl h7)
      have hv := ncV_7 (ss := ss) (sh := sh) h7
      conv => whnf
      repeat' (first
        | (refine plan_in (id := 11) [0, 2, 3, 4, 5, 6, 7, 8, 1, 9, 10] (by kernel_rfl) (by kernel_rfl) ?_; conv => whnf)
        | (refine get_nat (by omega) ?_; conv => whnf)
        | (refine aGet_in rfl ?_; conv => whnf)
        | (refine And.intro (by omega) ?_; conv => whnf)
        | (refine And.intro rfl (And.intro (List.cons_ne_nil _ _) ?_); conv => whnf)
        | (refine callG_t ?_; conv => whnf)
        | (refine append_same ?_; conv => whnf)
        | (refine get_ii_n (by omega) ?_; conv => whnf)
        | (refine get_ii (by omega) ?_; conv => whnf)
        | (refine And.intro (pureL_ints _ _) ?_; conv => whnf)
        | (refine iCountOf_call ?_; conv => whnf)
        | (refine aIf_dec (fun _ => ?_) (fun _ => ?_) <;> conv => whnf))
      all_goals (first | (exfalso; omega) | contradiction | skip)
      all_goals exact retS rfl (int_eq hv.symm)
    · by_cases h12 : x.op = 12
      · have ha := h1 (.inr h12)
        have hl : (ss.getD x.a.toNat []).length = 2 := h2 h12
        have hv := ncV_12 (ss := ss) (sh := sh) h12
        conv => whnf
        repeat' (first
          | (refine plan_in (id := 11) [0, 2, 3, 4, 5, 6, 7, 8, 1, 9, 10] (by kernel_rfl) (by kernel_rfl) ?_; conv => whnf)
          | (refine get_nat (by omega) ?_; conv => whnf)
          | (refine get_int (by omega) ?_; conv => whnf)
          | (refine aGet_in rfl ?_; conv => whnf)
          | (refine And.intro (by omega) ?_; conv => whnf)
          | (refine And.intro rfl (And.intro (List.cons_ne_nil _ _) ?_); conv => whnf)
          | (refine callG_t ?_; conv => whnf)
          | (refine append_same ?_; conv => whnf)
          | (refine get_ii_n (by omega) ?_; conv => whnf)
          | (refine get_ii (by omega) ?_; conv => whnf)
          | (refine And.intro (pureL_ints _ _) ?_; conv => whnf)
          | (refine iCountOf_call ?_; conv => whnf)
          | (refine aIf_dec (fun _ => ?_) (fun _ => ?_) <;> conv => whnf))
        all_goals (first | (exfalso; omega) | contradiction | skip)
        all_goals exact retS rfl (int_eq hv.symm)
      · have hv := ncV_0 (ss := ss) (sh := sh) ⟨hp, h7, h12⟩
        conv => whnf
        repeat' (first
          | (refine plan_in (id := 11) [0, 2, 3, 4, 5, 6, 7, 8, 1, 9, 10] (by kernel_rfl) (by kernel_rfl) ?_; conv => whnf)
          | (refine get_nat (by omega) ?_; conv => whnf)
          | (refine aGet_in rfl ?_; conv => whnf)
          | (refine And.intro (by omega) ?_; conv => whnf)
          | (refine And.intro rfl (And.intro (List.cons_ne_nil _ _) ?_); conv => whnf)
          | (refine callG_t ?_; conv => whnf)
          | (refine append_same ?_; conv => whnf)
          | (refine get_ii_n (by omega) ?_; conv => whnf)
          | (refine iCountOf_call ?_; conv => whnf)
          | (refine aIf_dec (fun _ => ?_) (fun _ => ?_) <;> conv => whnf))
        all_goals (first | (exfalso; omega) | contradiction | skip)
        all_goals exact retS rfl (int_eq hv.symm)
theorem nodeCost_call {c d e : Nat} {x : Nd} {ss : List (List Int)} {sh : List Int} {env : List AV} {rows : List Row} {ctr low : Nat} {k : AV → St → Prop} (hpre : ((x.op = 7 ∨ x.op = 12) → 0 ≤ x.a ∧ x.a < ss.length) ∧ (x.op = 12 → (shA x ss).length = 2)) (h : k (.int .i64 (ncV x ss sh)) ⟨env, rows, ctr + 1, low⟩) :
    CallB Try.prog 31 ⟨env, rows, ctr, low⟩ [.agg [.int .i64 x.op, .int .i64 x.a, .int .i64 x.b, .sl c x.l.length (x.l.map (.int .i64))], .sl d ss.length (ss.map (slI d)), .sl e sh.length (sh.map (.int .i64))] k := callS_in nodeCost_sound (c, x, d, ss, e, sh) hpre rfl h
def coTo (ns : List Nd) (ss : List (List Int)) (ne : List Bool) : Nat → Int
  | 0 => 0
  | k + 1 => if ne.getD k false = true then IntKind.i64.wrap (coTo ns ss ne k + ncV (ns.getD k default) ss (ss.getD k [])) else coTo ns ss ne k
theorem coTo_t {ns : List Nd} {ss : List (List Int)} {ne : List Bool} {k : Nat} (h : ne.getD k false = true) : coTo ns ss ne (k + 1) = IntKind.i64.wrap (coTo ns ss ne k + ncV (ns.getD k default) ss (ss.getD k [])) := if_pos h
theorem coTo_f {ns : List Nd} {ss : List (List Int)} {ne : List Bool} {k : Nat} (h : ne.getD k false = false) : coTo ns ss ne (k + 1) = coTo ns ss ne k := if_neg (by rw [h]; decide)
theorem coTo_w (ns : List Nd) (ss : List (List Int)) (ne : List Bool) : ∀ k, IntKind.i64.wrap (coTo ns ss ne k + 0) = coTo ns ss ne k
  | 0 => rfl
  | k + 1 => by
    unfold coTo
    split
    · rw [IntKind.wrap_i64, IntKind.wrap_i64]; omega
    · exact coTo_w ns ss ne k
theorem coTo_0 {ns : List Nd} {ss : List (List Int)} {ne : List Bool} {k : Nat} (h : ¬ (2 ≤ (ns.getD k default).op ∧ (ns.getD k default).op ≤ 6) ∧ (ns.getD k default).op ≠ 7 ∧ (ns.getD k default).op ≠ 12) : coTo ns ss ne (k + 1) = coTo ns ss ne k := by
  by_cases e : ne.getD k false = true
  · rw [coTo_t e, ncV_0 h, coTo_w]
  · exact coTo_f (by simpa using e)
def coV (xss : List (List Int)) (ns : List Nd) : Int := if (shM xss ns).2 = true then coTo ns (shM xss ns).1 (neL xss ns) ns.length else -1
def sCost : CSpec := fnS (ι := Nat × List (List Int) × List Nd) (fun | (c, xss, ns) => [.agg [.sl c xss.length (xss.map (slI c)), .sl c ns.length (ns.flatMap (ndC c))]]) (fun | (_, _, ns) => eP ns) (fun | (_, xss, ns) => .int .i64 (coV xss ns))
theorem ExI.prod {xss ss : List (List Int)} {ns : List Nd} (h : ExI xss ns ss) {p : Nat} (hp : p < ns.length) (h12 : (ns.getD p default).op = 12) : (shA (ns.getD p default) ss).length = 2 := by
  have hk := h.k p hp
  unfold kOk at hk
  rcases hk with hk | hk | hk | hk | hk | hk | hk | hk | hk
  · omega
  · omega
  · omega
  · omega
  · omega
  · omega
  · omega
  · omega
  · exact hk.2.1
set_option maxHeartbeats 8000000 in
theorem iCostOf_sound : Sound Try.prog 12 sCost := by
  refine sound_of Try.func12 rfl (enters_of Try.func12 (by kernel_rfl) (by kernel_rfl)) ?_
  rintro ⟨c, xss, ns⟩ hpre
  have hE : eP ns := hpre
  have hmax : maxLen = 9223372036854775807 := rfl
  cases hM : (shM xss ns).2 with
  | false =>
    conv => whnf
    repeat' (first
      | (refine plan_in2 (id := 9) [0, 1, 2, 3, 4, 5, 6, 7, 8, 9, 10, 11, 12, 13] (by kernel_rfl) (by kernel_rfl) ?_; conv => whnf)
      | (refine aGet_in rfl ?_; conv => whnf)
      | (refine load_same ?_; conv => whnf)
      | (refine And.intro rfl (And.intro (List.cons_ne_nil _ _) ?_); conv => whnf)
      | (refine And.intro (Nat.le_of_ble_eq_true rfl) ?_; conv => whnf)
      | (refine held_in (f := 31) ?_)
      | (refine callG_t ?_; conv => whnf)
      | (refine append_same ?_; conv => whnf)
      | (refine And.intro (pureL_ii _ _) ?_; conv => whnf)
      | (refine And.intro (pureL_nd _ _) ?_; conv => whnf)
      | (refine iShapesOf_call (by assumption) ?_; conv => whnf)
      | (refine takeN_in ?_; conv => whnf)
      | (refine And.intro (by kernel_rfl) ?_; conv => whnf)
      | (refine aIf_ff (by assumption) ?_; conv => whnf)
      | refine aIf_not ?_)
    exact retS rfl (int_eq (if_neg (by rw [hM]; decide)).symm)
  | true =>
    have hX := exI_of hM
    have h12 := hX.n12
    have hsl := hX.len
    have hnl := neL_len hM
    conv => whnf
    repeat' (first
      | (refine plan_in2 (id := 9) [0, 1, 2, 3, 4, 5, 6, 7, 8, 9, 10, 11, 12, 13] (by kernel_rfl) (by kernel_rfl) ?_; conv => whnf)
      | (refine fun (_ : _ ≤ maxLen) => ?_; conv => whnf)
      | (refine aGet_in rfl ?_; conv => whnf)
      | (refine load_same ?_; conv => whnf)
      | (refine And.intro rfl (And.intro (List.cons_ne_nil _ _) ?_); conv => whnf)
      | (refine And.intro (Nat.le_of_ble_eq_true rfl) ?_; conv => whnf)
      | (refine held_in (f := 31) ?_)
      | (refine callG_t ?_; conv => whnf)
      | (refine append_same ?_; conv => whnf)
      | (refine And.intro (pureL_ii _ _) ?_; conv => whnf)
      | (refine And.intro (pureL_nd _ _) ?_; conv => whnf)
      | (refine iNeededOf_call (by assumption) ?_; conv => whnf)
      | (refine iShapesOf_call (by assumption) ?_; conv => whnf)
      | (refine takeN_in ?_; conv => whnf)
      | (refine And.intro (by kernel_rfl) ?_; conv => whnf)
      | (refine aIf_tt (by assumption) ?_; conv => whnf)
      | refine aIf_not ?_)
    refine loop_u (ι := Nat) [false, true, false, true, false, true, false, false, false, false, false, false, false, false, false, false, true, true, true, false, false, false, false, false, false, false, false, false, false, false, false, false, false, false, false, false, false, false, false] (fun k => [(5, .int .i64 (coTo ns (shM xss ns).1 (neL xss ns) k)), (18, .int .i64 k)]) (fun _ => []) (fun k => k ≤ ns.length) (fun k => ns.length - k) (0) (Nat.zero_le _) ?_ ?_
    · conv => whnf
      repeat' (first
        | exact trivial
        | exact rfl
        | exact le_bools rfl
        | exact pureL_ii _ _
        | exact pureL_nd _ _
        | exact Or.inl (And.intro (pureL_oi _ _) rfl)
        | refine Or.inr ?_
        | refine And.intro ?_ ?_
        | exact Nat.le_of_ble_eq_true rfl)
    · rintro k hk
      have hk : k ≤ ns.length := hk
      by_cases hlt : k < ns.length
      · cases hb : (neL xss ns).getD k false with
        | false =>
          have hn := coTo_f (ns := ns) (ss := (shM xss ns).1) hb
          have hb1 : (neL xss ns).getD ((k : Int).toNat * 1) false = false := by rw [Int.toNat_natCast, Nat.mul_one]; exact hb
          conv => whnf
          repeat' (first
            | (refine plan_in2 (id := 9) [0, 1, 2, 3, 4, 5, 6, 7, 8, 9, 10, 11, 12, 13] (by kernel_rfl) (by kernel_rfl) ?_; conv => whnf)
            | (refine And.intro (by omega) ?_; conv => whnf)
            | (refine held_in (f := 31) ?_)
            | (refine append_same ?_; conv => whnf)
            | (refine getb_n (by omega) ?_; conv => whnf)
            | (refine aIf_ff (by assumption) ?_; conv => whnf)
            | (refine aIf_dec (fun _ => ?_) (fun _ => ?_) <;> conv => whnf))
          all_goals (first | (exfalso; omega) | contradiction | skip)
          refine next_u (k + 1) (show ns.length - (k + 1) < ns.length - k by omega) (by exact (by omega : k + 1 ≤ ns.length)) ?_
          conv => whnf
          repeat' (first
            | exact trivial
            | exact rfl
            | exact le_bools rfl
            | exact pureL_ii _ _
            | exact pureL_nd _ _
            | exact Or.inl (And.intro (pureL_oi _ _) rfl)
            | refine Or.inr ?_
            | refine And.intro ?_ ?_
            | exact Nat.le_of_ble_eq_true rfl
            | exact int_eq (by omega)
            | exact int_eq (by rw [IntWalk.i64_in _ (by omega)] <;> omega))
          all_goals (first | exact int_eq hn.symm | exact int_eq hn | skip)
        | true =>
          have hn := coTo_t (ns := ns) (ss := (shM xss ns).1) hb
          have hb1 : (neL xss ns).getD ((k : Int).toNat * 1) false = true := by rw [Int.toNat_natCast, Nat.mul_one]; exact hb
          conv => whnf
          repeat' (first
            | (refine plan_in2 (id := 9) [0, 1, 2, 3, 4, 5, 6, 7, 8, 9, 10, 11, 12, 13] (by kernel_rfl) (by kernel_rfl) ?_; conv => whnf)
            | (refine aGet_in rfl ?_; conv => whnf)
            | (refine And.intro (by omega) ?_; conv => whnf)
            | (refine held_in (f := 31) ?_)
            | (refine append_same ?_; conv => whnf)
            | (refine part_nd_n (by omega) ?_; conv => whnf)
            | (refine getb_n (by omega) ?_; conv => whnf)
            | (refine get_oi_n (by omega) ?_; conv => whnf)
            | (refine aIf_tt (by assumption) ?_; conv => whnf)
            | (refine aIf_dec (fun _ => ?_) (fun _ => ?_) <;> conv => whnf))
          all_goals (first | (exfalso; omega) | contradiction | skip)
          refine held_out (callG_tree (callArgs_nls (c := c) (x := ns.getD k default) (ss := (shM xss ns).1) (k := k) rfl rfl (by simp) (by omega) rfl rfl) ?_)
          refine nodeCost_call ⟨fun h => ?_, fun h => hX.prod hlt h⟩ ?_
          · have := hX.a hlt (by omega); omega
          conv => whnf
          repeat' (first
            | (refine plan_in2 (id := 9) [0, 1, 2, 3, 4, 5, 6, 7, 8, 9, 10, 11, 12, 13] (by kernel_rfl) (by kernel_rfl) ?_; conv => whnf)
            | (refine held_in (f := 31) ?_)
            | (refine append_same ?_; conv => whnf))
          all_goals (first | (exfalso; omega) | contradiction | skip)
          refine next_ut (k + 1) (show ns.length - (k + 1) < ns.length - k by omega) (by exact (by omega : k + 1 ≤ ns.length)) ?_
          conv => whnf
          refine to_close 1 (0 + (k : Int).toNat * 1) 3 _ _ 1 3 _ _ rfl (get_setC (by simp; omega)) rfl (by decide) (Nat.zero_le _) (by decide) (by simp) ?_
          refine St.le.to ?_
          conv => whnf
          repeat' (first | exact le_again [] (by simp) (by omega) rfl (ownI_pure _) | exact int_eq hn.symm | exact int_eq hn | refine And.intro ?_ ?_)
          repeat' (first
            | exact trivial
            | exact rfl
            | exact le_bools rfl
            | exact pureL_ii _ _
            | exact pureL_nd _ _
            | refine Or.inr ?_
            | refine And.intro ?_ ?_
            | exact Nat.le_of_ble_eq_true rfl
            | exact int_eq (by rw [IntWalk.i64_in _ (by omega)] <;> omega))
      · have he : k = ns.length := by omega
        subst he
        conv => whnf
        repeat' (first
          | (refine plan_in2 (id := 9) [0, 1, 2, 3, 4, 5, 6, 7, 8, 9, 10, 11, 12, 13] (by kernel_rfl) (by kernel_rfl) ?_; conv => whnf)
          | (refine aGet_in rfl ?_; conv => whnf)
          | (refine And.intro (by omega) ?_; conv => whnf)
          | (refine held_in (f := 31) ?_)
          | (refine append_same ?_; conv => whnf)
          | (refine part_nd_n (by omega) ?_; conv => whnf)
          | (refine getb_n (by omega) ?_; conv => whnf)
          | (refine get_oi_n (by omega) ?_; conv => whnf)
          | (refine aIf_dec (fun _ => ?_) (fun _ => ?_) <;> conv => whnf)
          | (refine aIf_in (fun _ => ?_) (fun _ => ?_) <;> conv => whnf))
        all_goals (first | (exfalso; omega) | contradiction | skip)
        exact retS rfl (int_eq (if_pos hM).symm)
end Go.Proofs.Ytpbenelmklggcaa

/- Chapter 6: CostOf of the model. -/
-- @slim getb_n | get_oi
namespace Go.Proofs.Ytpbenelmklggcaa
set_option maxRecDepth 20000
open Go.RowKit Go.Am
set_option linter.unusedSimpArgs false
theorem get_set2 {α : Type} {f : α → AV} {l : List α} {o k : Nat} {r : AV} {u : AV} (ho : o ≠ k) (h : ((l.map f))[k]? = some u) : ((l.map f).set o r)[k]? = some u := by rw [List.getElem?_set_ne ho]; exact h
theorem get_set2' {α : Type} {f : α → AV} {l : List α} {o o' k : Nat} {r r' : AV} (ho : k = o) (hne : k ≠ o') (h : k < l.length) : (((l.map f).set o r).set o' r')[k]? = some r := by
  subst ho
  rw [List.getElem?_set_ne (Ne.symm hne), List.getElem?_set_self (by simpa using h)]
theorem get_set3 {l : List AV} {o o' : Nat} {x r r' : AV} (hne : o' ≠ o) (h : o' < l.length) : (((l.set o r).set o' r').set o x)[o']? = some r' := by
  rw [List.getElem?_set_ne (Ne.symm hne), List.getElem?_set_self (by simpa using h)]
theorem get_ois {t : TypeId} {i : Int} {o : Nat} {r : AV} {xss : List (List Int)} {K : AV → Prop} (h : 0 ≤ i ∧ i < xss.length) (ho : o ≠ i.toNat) (hK : K (ownI t (xss.getD i.toNat []))) : aGet (((xss.map (ownI t)).set o r).drop (0 + i.toNat * 1)) 0 K :=
  ⟨_, by rw [Nat.zero_add, Nat.mul_one, List.getElem?_drop, Nat.add_zero, List.getElem?_set_ne ho, List.getElem?_map, getD_eq (d := []) (show i.toNat < xss.length by omega)]; rfl, hK⟩
attribute [local irreducible] aPlan aGet aIf aLoop aCall RetB NextB CallB CallG aCut aSet aAppend
/-- Two cells that had names have their lists for themselves again. -/
theorem le_again2 {α : Type} {f : α → AV} {l : List α} (d : α) {o k o' k' : Nat} {r x r' x' : AV} {p : Prop} (ho : o = k) (hk : k < l.length) (hx : x = f (l.getD k d)) (ho' : o' = k') (hk' : k' < l.length) (hx' : x' = f (l.getD k' d)) (hne : k ≠ k') (hf : ∀ x, (f x).pure = true) :
    (pureL (((((l.map f).set o r).set o' r').set o x).set o' x') = true ∧ l.map f = ((((l.map f).set o r).set o' r').set o x).set o' x') ∨ p := by
  subst ho; subst ho'
  refine le_cells ?_ (pureL_map hf _)
  have e : (l.map f)[o]? = some (f (l.getD o d)) := by rw [List.getElem?_map, getD_eq (d := d) hk]; rfl
  have e' : (l.map f)[o']? = some (f (l.getD o' d)) := by rw [List.getElem?_map, getD_eq (d := d) hk']; rfl
  have hl := (List.getElem?_eq_some_iff.1 e).1
  have hl' := (List.getElem?_eq_some_iff.1 e').1
  refine List.ext_getElem? fun j => ?_
  simp only [List.getElem?_set, List.length_set]
  by_cases h1 : o' = j
  · subst h1; rw [if_pos rfl, if_pos hl', e', hx']
  · rw [if_neg h1]
    by_cases h2 : o = j
    · subst h2; rw [if_pos rfl, if_pos hl, e, hx]
    · rw [if_neg h2, if_neg h1, if_neg h2]
set_option maxHeartbeats 16000000 in
theorem sCostOf_sound : Sound Try.prog 11 sCost := by
  refine sound_of Try.func11 rfl (enters_of Try.func11 (by kernel_rfl) (by kernel_rfl)) ?_
  rintro ⟨c, xss, ns⟩ hpre
  have hE : eP ns := hpre
  have hmax : maxLen = 9223372036854775807 := rfl
  cases hM : (shM xss ns).2 with
  | false =>
    conv => whnf
    repeat' (first
      | (refine plan_in (id := 16) [0, 1, 2, 3, 4, 6, 7, 8, 9, 10, 11, 12, 5, 13, 14, 15] (by kernel_rfl) (by kernel_rfl) ?_; conv => whnf)
      | (refine aGet_in rfl ?_; conv => whnf)
      | (refine load_same ?_; conv => whnf)
      | (refine And.intro rfl (And.intro (List.cons_ne_nil _ _) ?_); conv => whnf)
      | (refine And.intro (Nat.le_of_ble_eq_true rfl) ?_; conv => whnf)
      | (refine callG_t ?_; conv => whnf)
      | (refine append_same ?_; conv => whnf)
      | (refine And.intro (pureL_ii _ _) ?_; conv => whnf)
      | (refine And.intro (pureL_nd _ _) ?_; conv => whnf)
      | (refine sShapesOf_call (by assumption) ?_; conv => whnf)
      | (refine takeN_in ?_; conv => whnf)
      | (refine And.intro (by kernel_rfl) ?_; conv => whnf)
      | (refine aIf_ff (by assumption) ?_; conv => whnf)
      | refine aIf_not ?_)
    exact retS rfl (int_eq (if_neg (by rw [hM]; decide)).symm)
  | true =>
    have hX := exI_of hM
    have h12 := hX.n12
    have hsl := hX.len
    have hnl := neL_len hM
    conv => whnf
    repeat' (first
      | (refine plan_in (id := 16) [0, 1, 2, 3, 4, 6, 7, 8, 9, 10, 11, 12, 5, 13, 14, 15] (by kernel_rfl) (by kernel_rfl) ?_; conv => whnf)
      | (refine aGet_in rfl ?_; conv => whnf)
      | (refine load_same ?_; conv => whnf)
      | (refine And.intro rfl (And.intro (List.cons_ne_nil _ _) ?_); conv => whnf)
      | (refine And.intro (Nat.le_of_ble_eq_true rfl) ?_; conv => whnf)
      | (refine callG_t ?_; conv => whnf)
      | (refine append_same ?_; conv => whnf)
      | (refine And.intro (pureL_ii _ _) ?_; conv => whnf)
      | (refine And.intro (pureL_nd _ _) ?_; conv => whnf)
      | (refine sNeededOf_call (by assumption) ?_; conv => whnf)
      | (refine sShapesOf_call (by assumption) ?_; conv => whnf)
      | (refine takeN_in ?_; conv => whnf)
      | (refine And.intro (by kernel_rfl) ?_; conv => whnf)
      | (refine aIf_tt (by assumption) ?_; conv => whnf)
      | refine aIf_not ?_)
    refine loop_u (ι := Nat) [false, true, false, true, false, true, true, true, false, false, false, false, false, false, false, false, false, false, false, false, false, false, false, false, false, false, false, false, false, false, false, false, false, false, false, false, false, false, false, false, false, false, false, false, false, false, false, false, false, false, false, false, false, false, false, false, false, false, false, false, false, false, false, false, false, false, false, false, false, false, false, false, false, false, false] (fun k => [(5, .int .i64 (coTo ns (shM xss ns).1 (neL xss ns) k)), (7, .int .i64 k)]) (fun _ => []) (fun k => k ≤ ns.length) (fun k => ns.length - k) (0) (Nat.zero_le _) ?_ ?_
    · conv => whnf
      repeat' (first
        | exact trivial
        | exact rfl
        | exact le_bools rfl
        | exact pureL_ii _ _
        | exact pureL_nd _ _
        | exact Or.inl (And.intro (pureL_oi _ _) rfl)
        | refine Or.inr ?_
        | refine And.intro ?_ ?_
        | exact Nat.le_of_ble_eq_true rfl)
    · rintro k hk
      have hk : k ≤ ns.length := hk
      by_cases hlt : k < ns.length
      · cases hb : (neL xss ns).getD k false with
        | false =>
          have hn := coTo_f (ns := ns) (ss := (shM xss ns).1) hb
          have hb1 : (neL xss ns).getD ((k : Int).toNat * 1) false = false := by rw [Int.toNat_natCast, Nat.mul_one]; exact hb
          conv => whnf
          repeat' (first
            | (refine plan_in (id := 16) [0, 1, 2, 3, 4, 6, 7, 8, 9, 10, 11, 12, 5, 13, 14, 15] (by kernel_rfl) (by kernel_rfl) ?_; conv => whnf)
            | (refine fun (_ : _ ≤ maxLen) => ?_; conv => whnf)
            | (refine aGet_in rfl ?_; conv => whnf)
            | (refine And.intro (by omega) ?_; conv => whnf)
            | (refine And.intro (Nat.le_of_ble_eq_true rfl) ?_; conv => whnf)
            | (refine append_same ?_; conv => whnf)
            | (refine part_nd_n (by omega) ?_; conv => whnf)
            | (refine getb_n (by omega) ?_; conv => whnf)
            | (refine set_force ?_; conv => whnf)
            | (refine And.intro (by kernel_rfl) ?_; conv => whnf)
            | (refine aIf_ff (by assumption) ?_; conv => whnf)
            | refine aIf_not ?_
            | (refine aIf_dec (fun _ => ?_) (fun _ => ?_) <;> conv => whnf))
          all_goals (first | (exfalso; omega) | contradiction | skip)
          refine next_u (k + 1) (show ns.length - (k + 1) < ns.length - k by omega) (by exact (by omega : k + 1 ≤ ns.length)) ?_
          conv => whnf
          repeat' (first
            | exact trivial
            | exact rfl
            | exact le_bools rfl
            | exact pureL_ii _ _
            | exact pureL_nd _ _
            | exact Or.inl (And.intro (pureL_oi _ _) rfl)
            | refine Or.inr ?_
            | refine And.intro ?_ ?_
            | exact Nat.le_of_ble_eq_true rfl
            | exact int_eq (by omega)
            | exact int_eq (by rw [IntWalk.i64_in _ (by omega)] <;> omega))
          all_goals (first | exact int_eq hn.symm | exact int_eq hn | skip)
        | true =>
          have hn := coTo_t (ns := ns) (ss := (shM xss ns).1) hb
          have hb1 : (neL xss ns).getD ((k : Int).toNat * 1) false = true := by rw [Int.toNat_natCast, Nat.mul_one]; exact hb
          have hshk := hX.shp hlt
          have hck : countOf ((shM xss ns).1.getD k []) = cntTo ((shM xss ns).1.getD k []) ((shM xss ns).1.getD k []).length := if_pos hshk
          by_cases hp : 2 ≤ (ns.getD k default).op ∧ (ns.getD k default).op ≤ 6
          · rw [ncV_p hp, hck] at hn
            conv => whnf
            repeat' (first
              | (refine plan_in (id := 16) [0, 1, 2, 3, 4, 6, 7, 8, 9, 10, 11, 12, 5, 13, 14, 15] (by kernel_rfl) (by kernel_rfl) ?_; conv => whnf)
              | (refine fun (_ : _ ≤ maxLen) => ?_; conv => whnf)
              | (refine aGet_in rfl ?_; conv => whnf)
              | (refine And.intro (by omega) ?_; conv => whnf)
              | (refine And.intro (Nat.le_of_ble_eq_true rfl) ?_; conv => whnf)
              | (refine callG_t ?_; conv => whnf)
              | (refine append_same ?_; conv => whnf)
              | (refine part_nd_n (by omega) ?_; conv => whnf)
              | (refine getb_n (by omega) ?_; conv => whnf)
              | (refine get_oi_n (by omega) ?_; conv => whnf)
              | (refine cut_ints ?_; conv => whnf)
              | (refine in_call ?_; conv => whnf)
              | (refine l1Count_call ?_; conv => whnf)
              | (refine set_force ?_; conv => whnf)
              | (refine And.intro (by kernel_rfl) ?_; conv => whnf)
              | (refine aIf_tt (by assumption) ?_; conv => whnf)
              | refine aIf_not ?_
              | (refine aIf_dec (fun _ => ?_) (fun _ => ?_) <;> conv => whnf))
            all_goals (first | (exfalso; omega) | contradiction | skip)
            refine next_ut (k + 1) (show ns.length - (k + 1) < ns.length - k by omega) (by exact (by omega : k + 1 ≤ ns.length)) ?_
            conv => whnf
            refine to_close 1 (0 + (k : Int).toNat * 1) 5 _ _ 1 3 _ _ rfl (get_setC (by omega)) rfl (by decide) (Nat.zero_le _) (by decide) (by simp) ?_
            refine St.le.to ?_
            conv => whnf
            repeat' (first | exact le_again [] (by simp) (by omega) rfl (ownI_pure _) | exact int_eq hn.symm | exact int_eq hn | refine And.intro ?_ ?_)
            repeat' (first
              | exact trivial
              | exact rfl
              | exact le_bools rfl
              | exact pureL_ii _ _
              | exact pureL_nd _ _
              | refine Or.inr ?_
              | refine And.intro ?_ ?_
              | exact Nat.le_of_ble_eq_true rfl
              | exact int_eq (by rw [IntWalk.i64_in _ (by omega)] <;> omega))
          · by_cases h7 : (ns.getD k default).op = 7
            · have ha := hX.a hlt (by omega)
              have hcka : countOf ((shM xss ns).1.getD (ns.getD k default).a.toNat []) = cntTo ((shM xss ns).1.getD (ns.getD k default).a.toNat []) ((shM xss ns).1.getD (ns.getD k default).a.toNat []).length := if_pos (hX.shp (by omega))
              rw [ncV_7 h7, hcka] at hn
              conv => whnf
              repeat' (first
                | (refine plan_in (id := 16) [0, 1, 2, 3, 4, 6, 7, 8, 9, 10, 11, 12, 5, 13, 14, 15] (by kernel_rfl) (by kernel_rfl) ?_; conv => whnf)
                | (refine fun (_ : _ ≤ maxLen) => ?_; conv => whnf)
                | (refine aGet_in rfl ?_; conv => whnf)
                | (refine And.intro (by omega) ?_; conv => whnf)
                | (refine And.intro (Nat.le_of_ble_eq_true rfl) ?_; conv => whnf)
                | (refine callG_t ?_; conv => whnf)
                | (refine append_same ?_; conv => whnf)
                | (refine part_nd_n (by omega) ?_; conv => whnf)
                | (refine getb_n (by omega) ?_; conv => whnf)
                | (refine get_oi_n (by omega) ?_; conv => whnf)
                | (refine get_oi (by omega) ?_; conv => whnf)
                | (refine get_oi (by omega) ?_; conv => whnf)
                | (refine get_oi (by omega) ?_; conv => whnf)
                | (refine cut_ints ?_; conv => whnf)
                | (refine in_call ?_; conv => whnf)
                | (refine l1Count_call ?_; conv => whnf)
                | (refine set_force ?_; conv => whnf)
                | (refine And.intro (by kernel_rfl) ?_; conv => whnf)
                | (refine aIf_tt (by assumption) ?_; conv => whnf)
                | refine aIf_not ?_
                | (refine aIf_dec (fun _ => ?_) (fun _ => ?_) <;> conv => whnf))
              all_goals (first | (exfalso; omega) | contradiction | skip)
              refine next_ut (k + 1) (show ns.length - (k + 1) < ns.length - k by omega) (by exact (by omega : k + 1 ≤ ns.length)) ?_
              conv => whnf
              refine to_close 1 (0 + (ns.getD k default).a.toNat * 1) 5 _ _ 1 3 _ _ rfl (get_setC (by omega)) rfl (by decide) (Nat.zero_le _) (by decide) (by simp) ?_
              refine St.le.to ?_
              conv => whnf
              repeat' (first | exact le_again [] (by simp) (by omega) rfl (ownI_pure _) | exact int_eq hn.symm | exact int_eq hn | refine And.intro ?_ ?_)
              repeat' (first
                | exact trivial
                | exact rfl
                | exact le_bools rfl
                | exact pureL_ii _ _
                | exact pureL_nd _ _
                | refine Or.inr ?_
                | refine And.intro ?_ ?_
                | exact Nat.le_of_ble_eq_true rfl
                | exact int_eq (by rw [IntWalk.i64_in _ (by omega)] <;> omega))
            · by_cases hp12 : (ns.getD k default).op = 12
              · have ha := hX.a hlt (by omega)
                have hl2 : ((shM xss ns).1.getD (ns.getD k default).a.toNat []).length = 2 := hX.prod hlt hp12
                have t1 : Int.toNat 1 = 1 := rfl
                rw [ncV_12 hp12, hck] at hn
                conv => whnf
                repeat' (first
                  | (refine get_ois (by omega) (by omega) ?_; conv => whnf)
                  | (refine plan_in (id := 16) [0, 1, 2, 3, 4, 6, 7, 8, 9, 10, 11, 12, 5, 13, 14, 15] (by kernel_rfl) (by kernel_rfl) ?_; conv => whnf)
                  | (refine fun (_ : _ ≤ maxLen) => ?_; conv => whnf)
                  | (refine get_nat (by omega) ?_; conv => whnf)
                  | (refine aGet_in rfl ?_; conv => whnf)
                  | (refine And.intro (by omega) ?_; conv => whnf)
                  | (refine And.intro (Nat.le_of_ble_eq_true rfl) ?_; conv => whnf)
                  | (refine callG_t ?_; conv => whnf)
                  | (refine append_same ?_; conv => whnf)
                  | (refine part_nd_n (by omega) ?_; conv => whnf)
                  | (refine getb_n (by omega) ?_; conv => whnf)
                  | (refine get_oi_n (by omega) ?_; conv => whnf)
                  | (refine cut_ints ?_; conv => whnf)
                  | (refine in_call ?_; conv => whnf)
                  | (refine l1Count_call ?_; conv => whnf)
                  | (refine set_force ?_; conv => whnf)
                  | (refine And.intro (by kernel_rfl) ?_; conv => whnf)
                  | (refine aIf_tt (by assumption) ?_; conv => whnf)
                  | refine aIf_not ?_
                  | (refine aIf_dec (fun _ => ?_) (fun _ => ?_) <;> conv => whnf))
                all_goals (first | (exfalso; omega) | contradiction | skip)
                refine next_ut (k + 1) (show ns.length - (k + 1) < ns.length - k by omega) (by exact (by omega : k + 1 ≤ ns.length)) ?_
                conv => whnf
                refine to_close 1 (0 + (k : Int).toNat * 1) 5 _ _ 1 3 _ _ rfl (get_set2' (by simp) (by omega) (by simp; omega)) rfl (by decide) (Nat.zero_le _) (by decide) (by simp) ?_
                refine to_close 1 (0 + (ns.getD k default).a.toNat * 1) 6 _ _ 1 3 _ _ rfl (get_set3 (by omega) (by rw [List.length_map]; omega)) rfl (by decide) (Nat.zero_le _) (by decide) (by simp) ?_
                refine St.le.to ?_
                conv => whnf
                repeat' (first | exact le_again2 [] (by simp) (by omega) rfl (by simp) (by omega) rfl (by omega) (ownI_pure _) | exact int_eq hn.symm | exact int_eq hn | refine And.intro ?_ ?_)
                repeat' (first
                  | exact trivial
                  | exact rfl
                  | exact le_bools rfl
                  | exact pureL_ii _ _
                  | exact pureL_nd _ _
                  | refine Or.inr ?_
                  | refine And.intro ?_ ?_
                  | exact Nat.le_of_ble_eq_true rfl
                  | exact int_eq (by rw [IntWalk.i64_in _ (by omega)] <;> omega))
              · have hn0 := coTo_0 (ne := neL xss ns) (ss := (shM xss ns).1) (k := k) ⟨hp, h7, hp12⟩
                conv => whnf
                repeat' (first
                  | (refine get_ois (by omega) (by omega) ?_; conv => whnf)
                  | (refine plan_in (id := 16) [0, 1, 2, 3, 4, 6, 7, 8, 9, 10, 11, 12, 5, 13, 14, 15] (by kernel_rfl) (by kernel_rfl) ?_; conv => whnf)
                  | (refine fun (_ : _ ≤ maxLen) => ?_; conv => whnf)
                  | (refine get_nat (by omega) ?_; conv => whnf)
                  | (refine aGet_in rfl ?_; conv => whnf)
                  | (refine And.intro (by omega) ?_; conv => whnf)
                  | (refine And.intro (Nat.le_of_ble_eq_true rfl) ?_; conv => whnf)
                  | (refine callG_t ?_; conv => whnf)
                  | (refine append_same ?_; conv => whnf)
                  | (refine part_nd_n (by omega) ?_; conv => whnf)
                  | (refine getb_n (by omega) ?_; conv => whnf)
                  | (refine get_oi_n (by omega) ?_; conv => whnf)
                  | (refine cut_ints ?_; conv => whnf)
                  | (refine in_call ?_; conv => whnf)
                  | (refine l1Count_call ?_; conv => whnf)
                  | (refine set_force ?_; conv => whnf)
                  | (refine And.intro (by kernel_rfl) ?_; conv => whnf)
                  | (refine aIf_tt (by assumption) ?_; conv => whnf)
                  | refine aIf_not ?_
                  | (refine aIf_dec (fun _ => ?_) (fun _ => ?_) <;> conv => whnf))
                all_goals (first | (exfalso; omega) | contradiction | skip)
                refine next_u (k + 1) (show ns.length - (k + 1) < ns.length - k by omega) (by exact (by omega : k + 1 ≤ ns.length)) ?_
                conv => whnf
                repeat' (first
                  | exact trivial
                  | exact rfl
                  | exact le_bools rfl
                  | exact pureL_ii _ _
                  | exact pureL_nd _ _
                  | exact Or.inl (And.intro (pureL_oi _ _) rfl)
                  | refine Or.inr ?_
                  | refine And.intro ?_ ?_
                  | exact Nat.le_of_ble_eq_true rfl
                  | exact int_eq (by omega)
                  | exact int_eq (by rw [IntWalk.i64_in _ (by omega)] <;> omega))
                all_goals (first | exact int_eq hn0.symm | exact int_eq hn0 | skip)
      · have he : k = ns.length := by omega
        subst he
        conv => whnf
        repeat' (first
          | (refine get_ois (by omega) (by omega) ?_; conv => whnf)
          | (refine plan_in (id := 16) [0, 1, 2, 3, 4, 6, 7, 8, 9, 10, 11, 12, 5, 13, 14, 15] (by kernel_rfl) (by kernel_rfl) ?_; conv => whnf)
          | (refine fun (_ : _ ≤ maxLen) => ?_; conv => whnf)
          | (refine get_nat (by omega) ?_; conv => whnf)
          | (refine aGet_in rfl ?_; conv => whnf)
          | (refine And.intro (by omega) ?_; conv => whnf)
          | (refine callG_t ?_; conv => whnf)
          | (refine append_same ?_; conv => whnf)
          | (refine part_nd_n (by omega) ?_; conv => whnf)
          | (refine getb_n (by omega) ?_; conv => whnf)
          | (refine get_oi_n (by omega) ?_; conv => whnf)
          | (refine cut_ints ?_; conv => whnf)
          | (refine in_call ?_; conv => whnf)
          | (refine l1Count_call ?_; conv => whnf)
          | (refine set_force ?_; conv => whnf)
          | refine aIf_not ?_
          | (refine aIf_dec (fun _ => ?_) (fun _ => ?_) <;> conv => whnf)
          | (refine aIf_in (fun _ => ?_) (fun _ => ?_) <;> conv => whnf))
        all_goals (first | (exfalso; omega) | contradiction | skip)
        exact retS rfl (int_eq (if_pos hM).symm)

theorem iCostOf_call {c : Nat} {xss : List (List Int)} {ns : List Nd} {env : List AV} {rows : List Row} {ctr low : Nat} {k : AV → St → Prop} (hpre : eP ns) (h : k (.int .i64 (coV xss ns)) ⟨env, rows, ctr + 1, low⟩) :
    CallB Try.prog 12 ⟨env, rows, ctr, low⟩ [.agg [.sl c xss.length (xss.map (slI c)), .sl c ns.length (ns.flatMap (ndC c))]] k := callS_in iCostOf_sound (c, xss, ns) hpre rfl h
theorem sCostOf_call {c : Nat} {xss : List (List Int)} {ns : List Nd} {env : List AV} {rows : List Row} {ctr low : Nat} {k : AV → St → Prop} (hpre : eP ns) (h : k (.int .i64 (coV xss ns)) ⟨env, rows, ctr + 1, low⟩) :
    CallB Try.prog 11 ⟨env, rows, ctr, low⟩ [.agg [.sl c xss.length (xss.map (slI c)), .sl c ns.length (ns.flatMap (ndC c))]] k := callS_in sCostOf_sound (c, xss, ns) hpre rfl h
end Go.Proofs.Ytpbenelmklggcaa
