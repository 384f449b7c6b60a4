import Derived.Test.YtjmdhfjemaoebaaGreatM01x30
import Derived.Test.YtjmdhfjemaoebaaGreatM01x29
import Derived.Test.YtjmdhfjemaoebaaGreatM01x21
import Derived.Test.YtjmdhfjemaoebaaGreatM01x19
import Derived.Test.YtjmdhfjemaoebaaGreatM01x31
import Derived.Test.YtjmdhfjemaoebaaGreatM01x22
namespace Go.Am
open Go.RowKit
mutual
def AV.bare : AV → Bool
  | .sl _ _ _ => false
  | .rd _ => false
  | .tup cs => bareL cs
  | .agg cs => bareL cs
  | .own _ _ _ cs => bareL cs
  | .ref _ _ _ _ => true
  | .ptr _ _ _ => true
  | .un => true
  | .int _ _ => true
  | .bool _ => true
  | .str _ => true
  | .nil => true
def bareL : List AV → Bool
  | [] => true
  | u :: us => u.bare && bareL us
end
theorem bareL_get : ∀ {us : List AV} {j : Nat} {u : AV}, bareL us = true → us[j]? = some u → u.bare = true
  | [], j, u, _, h => by simp at h
  | x :: us, j, u, hp, h => by
    simp only [bareL, Bool.and_eq_true] at hp
    cases j with
    | zero => simp at h; subst h; exact hp.1
    | succ j => exact bareL_get hp.2 (by simpa using h)
theorem bareL_map {α : Type} {f : α → AV} (h : ∀ x, (f x).bare = true) : ∀ (l : List α), bareL (l.map f) = true
  | [] => rfl
  | x :: l => by rw [List.map_cons]; show ((f x).bare && bareL (l.map f)) = true; rw [h, bareL_map h l]; rfl
theorem bareL_ints (k : IntKind) (zs : List Int) : bareL (zs.map (.int k)) = true := bareL_map (fun _ => rfl) zs
mutual
def AV.one : AV → AV
  | .sl _ n cs => .sl 1 n (oneL cs)
  | .tup cs => .tup (oneL cs)
  | .agg cs => .agg (oneL cs)
  | .rd cs => .rd (oneL cs)
  | .own e z n cs => .own e z n cs
  | .ref t v o n => .ref t v o n
  | .ptr t v o => .ptr t v o
  | .un => .un
  | .int k n => .int k n
  | .bool b => .bool b
  | .str s => .str s
  | .nil => .nil
def oneL : List AV → List AV
  | [] => []
  | u :: us => u.one :: oneL us
end
theorem oneL_length : ∀ (us : List AV), (oneL us).length = us.length
  | [] => rfl
  | u :: us => by simp [oneL, oneL_length us]
theorem oneL_get : ∀ (us : List AV) (j : Nat), (oneL us)[j]? = (us[j]?).map AV.one
  | [], j => by simp [oneL]
  | x :: us, j => by
    cases j with
    | zero => simp [oneL]
    | succ j => simpa [oneL] using oneL_get us j
theorem oneL_app : ∀ (us vs : List AV), oneL (us ++ vs) = oneL us ++ oneL vs
  | [], vs => rfl
  | u :: us, vs => by show u.one :: oneL (us ++ vs) = u.one :: (oneL us ++ oneL vs); rw [oneL_app us vs]
theorem oneL_map {α : Type} {f g : α → AV} (h : ∀ x, (f x).one = g x) : ∀ (l : List α), oneL (l.map f) = l.map g
  | [] => rfl
  | x :: l => by show (f x).one :: oneL (l.map f) = g x :: l.map g; rw [h, oneL_map h l]
theorem oneL_flat {α : Type} {f g : α → List AV} (h : ∀ x, oneL (f x) = g x) : ∀ (l : List α), oneL (l.flatMap f) = l.flatMap g
  | [] => rfl
  | x :: l => by rw [List.flatMap_cons, List.flatMap_cons, oneL_app, h, oneL_flat h l]
theorem oneL_ints (k : IntKind) (zs : List Int) : oneL (zs.map (.int k)) = zs.map (.int k) := oneL_map (fun _ => rfl) zs
theorem slI_one (c : Nat) (xs : List Int) : (slI c xs).one = slI 1 xs := by
  show AV.sl 1 xs.length (oneL (xs.map (.int .i64))) = _
  rw [oneL_ints]; rfl
theorem oneL_ii (c : Nat) (xss : List (List Int)) : oneL (xss.map (slI c)) = xss.map (slI 1) := oneL_map (slI_one c) _
theorem oneL_nd (c : Nat) (ns : List Nd) : oneL (ns.flatMap (ndC c)) = ns.flatMap (ndC 1) := oneL_flat (fun n => by
  show [AV.int .i64 n.op, AV.int .i64 n.a, AV.int .i64 n.b, (slI c n.l).one] = _
  rw [slI_one]; rfl) _
section
variable {D D' : Nat → Prop} {w : World} {φ : Places} {rows : List Row} {ctr : Nat}
theorem VR.chD {v : Value} {u : AV} (h : VR D w φ rows ctr v u) (hb : u.bare = true) : VR D' w φ rows ctr v u := by
  induction h with
  | un v => exact .un v
  | int k n => exact .int k n
  | bool b => exact .bool b
  | str s => exact .str s
  | nil => exact .nil
  | sl0 A cap c hm => exact .sl0 A cap c hm
  | sl ad c n cap cells vs hs hF hD hlt hn hm hl hc h1 hv ih => simp [AV.bare] at hb
  | rd ad cells vs hs hF hlt hl hc h1 hv ih => simp [AV.bare] at hb
  | agg cs cells hl h1 hv ih =>
    simp only [AV.bare] at hb
    exact .agg cs cells hl h1 (fun j v u hv' hu => ih j v u hv' hu (bareL_get hb hu))
  | tup vs us hl hv ih =>
    simp only [AV.bare] at hb
    exact .tup vs us hl (fun j v u hv' hu => ih j v u hv' hu (bareL_get hb hu))
  | ref t ver off n v hlt h1 h => exact .ref t ver off n v hlt h1 h
  | ptr t ver off v hlt h1 h => exact .ptr t ver off v hlt h1 h
theorem CV.chD {v : Value} {u : AV} {F : Foot} (h : CV D w φ rows ctr v u F) (hb : u.bare = true) : CV D' w φ rows ctr v u F := by
  induction h with
  | vr v u h => exact .vr v u (h.chD hb)
  | own0 e z hz => exact .own0 e z hz
  | own e z n g cap cur cells vs F hz hg hs hn hm hl hv hF hc ih =>
    simp only [AV.bare] at hb
    exact .own e z n g cap cur cells vs F hz hg hs hn hm hl hv hF fun j u hu => ih j u hu (bareL_get hb hu)
theorem VR.one {v : Value} {u : AV} (h : VR D w φ rows ctr v u) (hD' : ∀ b, b < w.heap.size → ¬ φ.O b → D' b) : VR D' w φ rows ctr v u.one := by
  induction h with
  | un v => exact .un v
  | int k n => exact .int k n
  | bool b => exact .bool b
  | str s => exact .str s
  | nil => exact .nil
  | sl0 A cap c hm => exact .sl0 A cap 1 hm
  | sl ad c n cap cells vs hs hF hD hlt hn hm hl hc h1 hv ih =>
    refine .sl ad 1 n cap (oneL cells) vs hs hF (fun _ => hD' _ hlt hF) hlt hn hm (by rw [oneL_length]; exact hl) hc h1 (fun j v u hv' hu => ?_)
    rw [oneL_get, Option.map_eq_some_iff] at hu
    obtain ⟨u', hu', rfl⟩ := hu
    exact ih j v u' hv' hu'
  | rd ad cells vs hs hF hlt hl hc h1 hv ih =>
    refine .rd ad (oneL cells) vs hs hF hlt (by rw [oneL_length]; exact hl) hc h1 (fun j v u hv' hu => ?_)
    rw [oneL_get, Option.map_eq_some_iff] at hu
    obtain ⟨u', hu', rfl⟩ := hu
    exact ih j v u' hv' hu'
  | agg cs cells hl h1 hv ih =>
    refine .agg cs (oneL cells) (by rw [oneL_length]; exact hl) h1 (fun j v u hv' hu => ?_)
    rw [oneL_get, Option.map_eq_some_iff] at hu
    obtain ⟨u', hu', rfl⟩ := hu
    exact ih j v u' hv' hu'
  | tup vs us hl hv ih =>
    refine .tup vs (oneL us) (by rw [oneL_length]; exact hl) (fun j v u hv' hu => ?_)
    rw [oneL_get, Option.map_eq_some_iff] at hu
    obtain ⟨u', hu', rfl⟩ := hu
    exact ih j v u' hv' hu'
  | ref t ver off n v hlt h1 h => exact .ref t ver off n v hlt h1 h
  | ptr t ver off v hlt h1 h => exact .ptr t ver off v hlt h1 h
end
theorem sound_one {P : Program} {f : FuncId} {sp : CSpec} (args0 : sp.ι → List AV) (hs : Sound P f sp) (hins : ∀ x, sp.ins x = []) (ha : ∀ x, sp.args x = oneL (args0 x))
    (hb : ∀ x r ic news, sp.post x r ic news → r.bare = true ∧ ∀ n ∈ news, bareL n.cells = true) : Sound P f { sp with args := args0 } := by
  refine ⟨hs.1, fun x hpre D w vs φ hsr hver => ?_⟩
  have hsr : SR D w φ vs.toList ⟨args0 x, sp.ins x, 1, (sp.ins x).length⟩ := hsr
  obtain ⟨ω, hne⟩ := hsr.nest
  have hi := hins x
  have hsr' : SR (fun b => b < w.heap.size ∧ ¬ φ.O b) w φ vs.toList ⟨sp.args x, sp.ins x, 1, (sp.ins x).length⟩ :=
    ⟨fun g hg hD => hD.2 hg, fun b hb => hb.1, hsr.len, hsr.lo, hsr.inj, hsr.lt, hsr.occ, hsr.ver,
      ⟨ω, fun t r ob hr => by (have hr : (sp.ins x)[t]? = some r := hr; rw [hi] at hr; simp at hr), hne.out, hne.ap⟩, hsr.sz0,
      by show vs.toList.length = (sp.args x).length; rw [ha, oneL_length]; exact hsr.elen, fun i v u hv hu => by
        have hu : (sp.args x)[i]? = some u := hu
        rw [ha, oneL_get, Option.map_eq_some_iff] at hu
        obtain ⟨u', hu', rfl⟩ := hu
        exact (hsr.env i v u' hv hu').one fun b h1 h2 => ⟨h1, h2⟩⟩
  refine (hs.2 x hpre _ w vs φ hsr' (fun r hr => by rw [hi] at hr; simp at hr)).mono ?_
  rintro e w' ⟨v, r, ic, news, φ', rfl, hp, hic, hicp, hnews, hres, hkeep, hsr2, hlow, hfresh⟩
  obtain ⟨b1, b2⟩ := hb x r ic news hp
  obtain ⟨ω', hne'⟩ := hsr2.nest
  have hrows : upd (sp.ins x) ic ++ news = news := by rw [hi]; simp [upd]
  refine ⟨v, r, ic, news, φ', rfl, hp, hic, hicp, hnews, hres, hkeep, ?_, hlow, hfresh⟩
  refine ⟨fun g hg hD => ?_, fun b hb => Nat.lt_of_lt_of_le (hsr.dlt b hb) hkeep.size, hsr2.len, hsr2.lo, hsr2.inj, hsr2.lt, hsr2.occ, hsr2.ver,
    ⟨ω', fun t r0 ob hr hob => ?_, hne'.out, hne'.ap⟩, hsr2.sz0, hsr2.elen, fun i v' u hv hu => ?_⟩
  · rcases hfresh g hg with h | h
    · exact hsr.dis g h hD
    · have := hsr.dlt g hD; omega
  · have hrow := hne'.row t r0 ob hr hob
    have hr' : news[t]? = some r0 := by rw [← hrows]; exact hr
    have hbr := b2 r0 (List.mem_of_getElem? hr')
    cases ob with
    | none => exact hrow
    | some g =>
      obtain ⟨cur, d1, d2, d3, d4⟩ := hrow
      exact ⟨cur, d1, d2, d3, fun j u hu => by
        obtain ⟨v', f1, f2, f3⟩ := d4 j u hu
        exact ⟨v', f1, f2, f3.chD (bareL_get hbr hu)⟩⟩
  · have hu' : [r][i]? = some u := hu
    have e : u = r := by
      cases i with
      | zero => simpa using hu'.symm
      | succ i => simp at hu'
    exact (hsr2.env i v' u hv hu).chD (by rw [e]; exact b1)
abbrev MN := List (Nat × Nd)
def mnC (x : Nat × Nd) : List AV := ndC x.1 x.2
theorem mnC_length (x : Nat × Nd) : (mnC x).length = 4 := rfl
theorem mnC_pure (x : Nat × Nd) : pureL (mnC x) = true := ndC_pure _ _
theorem pureL_mn (M : MN) : pureL (M.flatMap mnC) = true := pureL_flat mnC_pure _
theorem get_mn_n {k j : Nat} {M : MN} {u : AV} {K : AV → Prop} (h : k < M.length) (hj : (mnC (M.getD k default))[j]? = some u) (hK : K u) : aGet (((M.flatMap mnC).drop ((k : Int).toNat * 4)).drop j) 0 K := get_flat mnC_length default (by rw [Int.toNat_natCast]) h hj hK
theorem part_mn_n {k : Nat} {M : MN} {K : AV → Prop} (h : k < M.length) (hk : K (.agg (mnC (M.getD k default)))) :
    aTakeN 4 ((M.flatMap mnC).drop ((k : Int).toNat * 4)) K := part_flat mnC_length (fun _ => rfl) default (by rw [Int.toNat_natCast]) h hk
end Go.Am
namespace Go.Am
open Go.RowKit
theorem bareRow {D D' : Nat → Prop} {w : World} {φ : Places} {rows : List Row} {ctr : Nat} {r : Row} {ob : Option Nat} {ω : Nat → Foot} (h : RowOk D w φ rows ctr r ob ω) (hb : bareL r.cells = true) : RowOk D' w φ rows ctr r ob ω := by
  cases ob with
  | none => exact h
  | some g =>
    obtain ⟨cur, d1, d2, d3, d4⟩ := h
    exact ⟨cur, d1, d2, d3, fun j u hu => by
      obtain ⟨v', f1, f2, f3⟩ := d4 j u hu
      exact ⟨v', f1, f2, f3.chD (bareL_get hb hu)⟩⟩
theorem bare_upd : ∀ {ins : List Row} {ic : List (List AV)} {r : Row}, (∀ c ∈ ic, bareL c = true) → r ∈ upd ins ic → bareL r.cells = true
  | [], ic, r, _, hr => by simp [upd] at hr
  | i :: ins, [], r, _, hr => by simp [upd] at hr
  | i :: ins, c :: ic, r, h, hr => by
    have hr : r ∈ ({ i with cells := c } : Row) :: upd ins ic := hr
    rcases List.mem_cons.1 hr with rfl | hr
    · exact h c (by simp)
    · exact bare_upd (fun c' hc => h c' (by simp [hc])) hr
theorem sound_oneI {P : Program} {f : FuncId} {sp : CSpec} (args0 : sp.ι → List AV) (hs : Sound P f sp) (hins : ∀ x, ∀ r ∈ sp.ins x, bareL r.cells = true) (ha : ∀ x, sp.args x = oneL (args0 x))
    (hb : ∀ x r ic news, sp.post x r ic news → r.bare = true ∧ (∀ c ∈ ic, bareL c = true) ∧ ∀ n ∈ news, bareL n.cells = true) : Sound P f { sp with args := args0 } := by
  refine ⟨hs.1, fun x hpre D w vs φ hsr hver => ?_⟩
  have hsr : SR D w φ vs.toList ⟨args0 x, sp.ins x, 1, (sp.ins x).length⟩ := hsr
  obtain ⟨ω, hne⟩ := hsr.nest
  have hi := hins x
  have hsr' : SR (fun b => b < w.heap.size ∧ ¬ φ.O b) w φ vs.toList ⟨sp.args x, sp.ins x, 1, (sp.ins x).length⟩ :=
    ⟨fun g hg hD => hD.2 hg, fun b hb => hb.1, hsr.len, hsr.lo, hsr.inj, hsr.lt, hsr.occ, hsr.ver,
      ⟨ω, fun t r ob hr hob => bareRow (hne.row t r ob hr hob) (hi r (List.mem_of_getElem? hr)), hne.out, hne.ap⟩, hsr.sz0,
      by show vs.toList.length = (sp.args x).length; rw [ha, oneL_length]; exact hsr.elen, fun i v u hv hu => by
        have hu : (sp.args x)[i]? = some u := hu
        rw [ha, oneL_get, Option.map_eq_some_iff] at hu
        obtain ⟨u', hu', rfl⟩ := hu
        exact (hsr.env i v u' hv hu').one fun b h1 h2 => ⟨h1, h2⟩⟩
  refine (hs.2 x hpre _ w vs φ hsr' hver).mono ?_
  rintro e w' ⟨v, r, ic, news, φ', rfl, hp, hic, hicp, hnews, hres, hkeep, hsr2, hlow, hfresh⟩
  obtain ⟨b1, b2, b3⟩ := hb x r ic news hp
  obtain ⟨ω', hne'⟩ := hsr2.nest
  refine ⟨v, r, ic, news, φ', rfl, hp, hic, hicp, hnews, hres, hkeep, ?_, hlow, hfresh⟩
  refine ⟨fun g hg hD => ?_, fun b hb => Nat.lt_of_lt_of_le (hsr.dlt b hb) hkeep.size, hsr2.len, hsr2.lo, hsr2.inj, hsr2.lt, hsr2.occ, hsr2.ver,
    ⟨ω', fun t r0 ob hr hob => ?_, hne'.out, hne'.ap⟩, hsr2.sz0, hsr2.elen, fun i v' u hv hu => ?_⟩
  · rcases hfresh g hg with h | h
    · exact hsr.dis g h hD
    · have := hsr.dlt g hD; omega
  · have hm : r0 ∈ upd (sp.ins x) ic ++ news := List.mem_of_getElem? hr
    refine bareRow (hne'.row t r0 ob hr hob) ?_
    rcases List.mem_append.1 hm with h | h
    · exact bare_upd b2 h
    · exact b3 r0 h
  · have hu' : [r][i]? = some u := hu
    have e : u = r := by
      cases i with
      | zero => simpa using hu'.symm
      | succ i => simp at hu'
    exact (hsr2.env i v' u hv hu).chD (by rw [e]; exact b1)
end Go.Am
namespace Go.Proofs.YtjmdhfjemaoebaaGreat
set_option maxRecDepth 20000
open Go.RowKit Go.Am
set_option linter.unusedSimpArgs false
attribute [local irreducible] aPlan aGet aIf aLoop aCall RetB NextB CallB CallG aCut aSet aAppend
def smP (xss : List (List Int)) (ns : List Nd) : Prop := (shM xss ns).2 = true ∧ ∀ j, j < ns.length → (ns.getD j default).op ≠ 5
instance (xss : List (List Int)) (ns : List Nd) : Decidable (smP xss ns) := by unfold smP; infer_instance
def sSmooth : CSpec := fnS (ι := Nat × List (List Int) × List Nd) (fun | (c, xss, ns) => [.agg [.sl c xss.length (xss.map (slI c)), .sl c ns.length (ns.flatMap (ndC c))]]) (fun | (_, _, ns) => eP ns) (fun | (_, xss, ns) => .bool (decide (smP xss ns)))
theorem smP_5 {xss : List (List Int)} {ns : List Nd} {k : Nat} (hk : k < ns.length) (h : (ns.getD k default).op = 5) : AV.bool false = AV.bool (decide (smP xss ns)) := congrArg AV.bool (decide_eq_false fun h' => h'.2 k hk h).symm
theorem smP_n {xss : List (List Int)} {ns : List Nd} (hM : (shM xss ns).2 = false) : AV.bool false = AV.bool (decide (smP xss ns)) := congrArg AV.bool (decide_eq_false fun h => Bool.false_ne_true (hM.symm.trans h.1)).symm
theorem smP_y {xss : List (List Int)} {ns : List Nd} (hM : (shM xss ns).2 = true) (h : ∀ j, j < ns.length → (ns.getD j default).op ≠ 5) : AV.bool true = AV.bool (decide (smP xss ns)) := congrArg AV.bool (decide_eq_true ⟨hM, h⟩).symm
theorem smP_m {xss : List (List Int)} {ns : List Nd} (h : ∀ j, j < ns.length → (ns.getD j default).op ≠ 5) : AV.bool (shM xss ns).2 = AV.bool (decide (smP xss ns)) := by
  cases hM : (shM xss ns).2 with
  | false => exact smP_n hM
  | true => exact smP_y hM h
set_option maxHeartbeats 4000000 in
theorem iSmoothOk_sound : Sound Tryz.prog 57 sSmooth := by
  refine sound_of Tryz.func57 rfl (enters_of Tryz.func57 (by kernel_rfl) (by kernel_rfl)) ?_
  rintro ⟨c, xss, ns⟩ hpre
  have hE : eP ns := hpre
  have hmax : maxLen = 9223372036854775807 := rfl
  cases hM : (shM xss ns).2 with
  | false =>
    conv => whnf
    repeat' (first
      | ((first | refine load_same ?_ | refine And.intro rfl (And.intro (List.cons_ne_nil _ _) ?_) | refine And.intro (Nat.le_of_ble_eq_true rfl) ?_ | refine callG_t ?_ | refine append_same ?_ | refine And.intro (pureL_ii _ _) ?_ | refine And.intro (pureL_nd _ _) ?_); conv => whnf) | (refine iExprOk_call (by first | omega | assumption | (refine ⟨?_, ?_⟩ <;> first | assumption | omega) | (refine ⟨?_, ?_, ?_⟩ <;> first | assumption | omega)) ?_; conv => whnf) | ((first | refine takeN_in ?_ | refine And.intro (by kernel_rfl) ?_ | refine aIf_ff (by assumption) ?_); conv => whnf) | refine aIf_not ?_)
    exact retS rfl (smP_n hM)
  | true =>
    conv => whnf
    repeat' (first
      | ((first | refine fun (_ : _ ≤ maxLen) => ?_ | refine aGet_in rfl ?_ | refine load_same ?_ | refine And.intro rfl (And.intro (List.cons_ne_nil _ _) ?_) | refine And.intro (Nat.le_of_ble_eq_true rfl) ?_ | refine callG_t ?_ | refine append_same ?_ | refine And.intro (pureL_ii _ _) ?_ | refine And.intro (pureL_nd _ _) ?_); conv => whnf) | (refine iExprOk_call (by first | omega | assumption | (refine ⟨?_, ?_⟩ <;> first | assumption | omega) | (refine ⟨?_, ?_, ?_⟩ <;> first | assumption | omega)) ?_; conv => whnf) | ((first | refine takeN_in ?_ | refine And.intro (by kernel_rfl) ?_ | refine aIf_tt (by assumption) ?_); conv => whnf) | refine aIf_not ?_)
    refine loop_u (ι := Nat) [false, false, false, false, false, false, false, false, false, true, true, true, false, false, false, false, false, false, false] (fun k => [(11, .int .i64 k)]) (fun _ => []) (fun k => k ≤ ns.length ∧ ∀ j, j < k → (ns.getD j default).op ≠ 5) (fun k => ns.length - k) (0) ⟨Nat.zero_le _, fun j hj => absurd hj (Nat.not_lt_zero _)⟩ ?_ ?_
    · conv => whnf
      repeat' (first
        | exact trivial | exact rfl
        | exact pureL_ii _ _ | exact pureL_nd _ _
        | refine Or.inr ?_ | refine And.intro ?_ ?_
        | exact Nat.le_of_ble_eq_true rfl)
    · rintro k ⟨hk, hno⟩
      have hk : k ≤ ns.length := hk
      have hno : ∀ j, j < k → (ns.getD j default).op ≠ 5 := hno
      by_cases hlt : k < ns.length
      · by_cases h5 : (ns.getD k default).op = 5
        · conv => whnf
          repeat' (first
            | ((first | refine aGet_in rfl ?_ | refine And.intro (by omega) ?_ | refine And.intro (Nat.le_of_ble_eq_true rfl) ?_ | refine append_same ?_ | refine part_nd_n (by omega) ?_ | refine set_force ?_ | refine And.intro (by kernel_rfl) ?_); conv => whnf) | (refine aIf_dec (fun _ => ?_) (fun _ => ?_) <;> conv => whnf))
          all_goals (first | (exfalso; omega) | skip)
          exact retS rfl (smP_5 hlt h5)
        · conv => whnf
          repeat' (first
            | ((first | refine aGet_in rfl ?_ | refine And.intro (by omega) ?_ | refine And.intro (Nat.le_of_ble_eq_true rfl) ?_ | refine append_same ?_ | refine part_nd_n (by omega) ?_ | refine set_force ?_ | refine And.intro (by kernel_rfl) ?_); conv => whnf) | (refine aIf_dec (fun _ => ?_) (fun _ => ?_) <;> conv => whnf))
          all_goals (first | (exfalso; omega) | skip)
          refine next_u (k + 1) (show ns.length - (k + 1) < ns.length - k by omega) ⟨(by omega : k + 1 ≤ ns.length), fun j hj => (Nat.lt_succ_iff_lt_or_eq.1 hj).elim (hno j) (fun e => e ▸ h5)⟩ ?_
          conv => whnf
          repeat' (first
            | exact trivial | exact rfl
            | exact pureL_ii _ _ | exact pureL_nd _ _
            | refine Or.inr ?_ | refine And.intro ?_ ?_
            | exact Nat.le_of_ble_eq_true rfl | exact int_eq (by rw [IntWalk.i64_in _ (by omega)] <;> omega))
      · conv => whnf
        repeat' (first
          | ((first | refine aGet_in rfl ?_ | refine And.intro (by omega) ?_ | refine append_same ?_ | refine part_nd_n (by omega) ?_ | refine set_force ?_); conv => whnf) | (refine aIf_dec (fun _ => ?_) (fun _ => ?_) <;> conv => whnf))
        all_goals (first | (exfalso; omega) | skip)
        exact retS rfl (smP_y hM fun j hj => hno j (by omega))
set_option maxHeartbeats 4000000 in
theorem sSmoothOk_sound : Sound Tryz.prog 51 sSmooth := by
  refine sound_of Tryz.func51 rfl (enters_of Tryz.func51 (by kernel_rfl) (by kernel_rfl)) ?_
  rintro ⟨c, xss, ns⟩ hpre
  have hE : eP ns := hpre
  have hmax : maxLen = 9223372036854775807 := rfl
  conv => whnf
  repeat' (first
    | ((first | refine And.intro rfl (And.intro (List.cons_ne_nil _ _) ?_) | refine append_same ?_); conv => whnf))
  refine loop_u (ι := Nat) [false, true, false, true, false, false, false, false, false, false, false, false, false, false, false, false, false, false, false, false] (fun k => [(3, .int .i64 k)]) (fun _ => []) (fun k => k ≤ ns.length ∧ ∀ j, j < k → (ns.getD j default).op ≠ 5) (fun k => ns.length - k) (0) ⟨Nat.zero_le _, fun j hj => absurd hj (Nat.not_lt_zero _)⟩ ?_ ?_
  · conv => whnf
    repeat' (first
      | exact trivial | exact rfl
      | exact pureL_ii _ _ | exact pureL_nd _ _
      | refine Or.inr ?_ | refine And.intro ?_ ?_
      | exact Nat.le_of_ble_eq_true rfl)
  · rintro k ⟨hk, hno⟩
    have hk : k ≤ ns.length := hk
    have hno : ∀ j, j < k → (ns.getD j default).op ≠ 5 := hno
    by_cases hlt : k < ns.length
    · by_cases h5 : (ns.getD k default).op = 5
      · conv => whnf
        repeat' (first
          | ((first | refine fun (_ : _ ≤ maxLen) => ?_ | refine aGet_in rfl ?_ | refine And.intro (by omega) ?_ | refine load_same ?_ | refine callG_t ?_ | refine append_same ?_ | refine get_nd_n (by omega) rfl ?_); conv => whnf) | (refine sExprOk_call (by first | omega | assumption | (refine ⟨?_, ?_⟩ <;> first | assumption | omega) | (refine ⟨?_, ?_, ?_⟩ <;> first | assumption | omega)) ?_; conv => whnf) | (refine takeN_in ?_; conv => whnf) | (refine aIf_dec (fun _ => ?_) (fun _ => ?_) <;> conv => whnf))
        all_goals (first | (exfalso; omega) | skip)
        exact retS rfl (smP_5 hlt h5)
      · conv => whnf
        repeat' (first
          | ((first | refine fun (_ : _ ≤ maxLen) => ?_ | refine aGet_in rfl ?_ | refine And.intro (by omega) ?_ | refine load_same ?_ | refine callG_t ?_ | refine append_same ?_ | refine get_nd_n (by omega) rfl ?_); conv => whnf) | (refine sExprOk_call (by first | omega | assumption | (refine ⟨?_, ?_⟩ <;> first | assumption | omega) | (refine ⟨?_, ?_, ?_⟩ <;> first | assumption | omega)) ?_; conv => whnf) | (refine takeN_in ?_; conv => whnf) | (refine aIf_dec (fun _ => ?_) (fun _ => ?_) <;> conv => whnf))
        all_goals (first | (exfalso; omega) | skip)
        refine next_u (k + 1) (show ns.length - (k + 1) < ns.length - k by omega) ⟨(by omega : k + 1 ≤ ns.length), fun j hj => (Nat.lt_succ_iff_lt_or_eq.1 hj).elim (hno j) (fun e => e ▸ h5)⟩ ?_
        conv => whnf
        repeat' (first
          | exact trivial | exact rfl
          | exact pureL_ii _ _ | exact pureL_nd _ _
          | refine Or.inr ?_ | refine And.intro ?_ ?_
          | exact Nat.le_of_ble_eq_true rfl | exact int_eq (by rw [IntWalk.i64_in _ (by omega)] <;> omega))
    · conv => whnf
      repeat' (first
        | ((first | refine fun (_ : _ ≤ maxLen) => ?_ | refine aGet_in rfl ?_ | refine And.intro (by omega) ?_ | refine load_same ?_ | refine And.intro (Nat.le_of_ble_eq_true rfl) ?_ | refine callG_t ?_ | refine append_same ?_ | refine get_nd_n (by omega) rfl ?_ | refine And.intro (pureL_ii _ _) ?_ | refine And.intro (pureL_nd _ _) ?_); conv => whnf) | (refine sExprOk_call (by first | omega | assumption | (refine ⟨?_, ?_⟩ <;> first | assumption | omega) | (refine ⟨?_, ?_, ?_⟩ <;> first | assumption | omega)) ?_; conv => whnf) | ((first | refine takeN_in ?_ | refine And.intro (by kernel_rfl) ?_); conv => whnf) | (refine aIf_dec (fun _ => ?_) (fun _ => ?_) <;> conv => whnf))
      all_goals (first | (exfalso; omega) | skip)
      exact retS rfl (smP_m fun j hj => hno j (by omega))
theorem iSmoothOk_call {c : Nat} {xss : List (List Int)} {ns : List Nd} {env : List AV} {rows : List Row} {ctr low : Nat} {k : AV → St → Prop} (hpre : eP ns) (h : k (.bool (decide (smP xss ns))) ⟨env, rows, ctr + 1, low⟩) :
    CallB Tryz.prog 57 ⟨env, rows, ctr, low⟩ [.agg [.sl c xss.length (xss.map (slI c)), .sl c ns.length (ns.flatMap (ndC c))]] k := callS_in iSmoothOk_sound (c, xss, ns) hpre rfl h
theorem sSmoothOk_call {c : Nat} {xss : List (List Int)} {ns : List Nd} {env : List AV} {rows : List Row} {ctr low : Nat} {k : AV → St → Prop} (hpre : eP ns) (h : k (.bool (decide (smP xss ns))) ⟨env, rows, ctr + 1, low⟩) :
    CallB Tryz.prog 51 ⟨env, rows, ctr, low⟩ [.agg [.sl c xss.length (xss.map (slI c)), .sl c ns.length (ns.flatMap (ndC c))]] k := callS_in sSmoothOk_sound (c, xss, ns) hpre rfl h
end Go.Proofs.YtjmdhfjemaoebaaGreat
namespace Go.Proofs.YtjmdhfjemaoebaaGreat
set_option maxRecDepth 20000
open Go.RowKit Go.Am
set_option linter.unusedSimpArgs false
def smOk (xs zs : List Int) : Bool := tensorOk xs zs && btw zs (-100000000) 100000000
def dtC (xs zs ps qs : List Int) : Prop := smOk xs zs = true ∧ smOk ps qs = true ∧ xs = ps
instance (xs zs ps qs : List Int) : Decidable (dtC xs zs ps qs) := by unfold dtC; infer_instance
def unC (xs zs ys : List Int) : Prop := tensorOk xs zs = true ∧ ¬ spread ys xs 0 < 0
instance (xs zs ys : List Int) : Decidable (unC xs zs ys) := by unfold unC; infer_instance
def sfC (xs zs ps qs : List Int) : Prop := tensorOk xs zs = true ∧ tensorOk ps qs = true ∧ xs = ps
instance (xs zs ps qs : List Int) : Decidable (sfC xs zs ps qs) := by unfold sfC; infer_instance
theorem retLM7 {env : List AV} {rows : List Row} {ctr τ ver : Nat} {t : TypeId} {zs zs' : List Int} {r : Row} {n : Nat} (hz : zs' = zs) (hr : rows[τ]? = some r) (hv : r.ver = ver) (e : r = ⟨ver, t, 1, zs.map (.int .i64)⟩) (hn : n = zs.length) :
    RetB ⟨env, rows, ctr, 0⟩ [] (fun r ic news => r = .ref 0 0 0 zs'.length ∧ ic = [] ∧ news = [⟨0, t, 1, zs'.map (.int .i64)⟩]) (.ref τ ver 0 n) := by
  subst hz; exact retL hr hv e hn
end Go.Proofs.YtjmdhfjemaoebaaGreat
namespace Go.Proofs.YtjmdhfjemaoebaaGreat
set_option maxRecDepth 20000
open Go.RowKit Go.Am
set_option linter.unusedSimpArgs false
def slS (x : Nd) (sh : List Int) (us vs ls : List T2) : List Int :=
  if x.op = 1 then zsOf sh
  else if x.op = 4 then twoL 0 (twoL 2 (sprd (ls.getD x.a.toNat t0).1 (ls.getD x.a.toNat t0).2 sh) (sprd (vs.getD x.b.toNat t0).1 (vs.getD x.b.toNat t0).2 sh)) (twoL 2 (sprd (vs.getD x.a.toNat t0).1 (vs.getD x.a.toNat t0).2 sh) (sprd (ls.getD x.b.toNat t0).1 (ls.getD x.b.toNat t0).2 sh))
  else if x.op = 12 then twoL 0 (prL (ls.getD x.a.toNat t0).2 (vs.getD x.b.toNat t0).2 ((vs.getD x.a.toNat t0).1.getD 0 0).toNat ((vs.getD x.a.toNat t0).1.getD 1 0).toNat ((vs.getD x.b.toNat t0).1.getD 1 0).toNat) (prL (vs.getD x.a.toNat t0).2 (ls.getD x.b.toNat t0).2 ((vs.getD x.a.toNat t0).1.getD 0 0).toNat ((vs.getD x.a.toNat t0).1.getD 1 0).toNat ((vs.getD x.b.toNat t0).1.getD 1 0).toNat)
  else (vS x sh us ls).2
def slM (x : Nd) (sh : List Int) (us vs ls : List T2) : TM := told sh (slS x sh us vs ls)
structure SlP (x : Nd) (sh : List Int) (us vs ls : List T2) : Prop where
  l : lPre x sh us ls
  v : allT vs
  f : ls.map Prod.fst = (vs.map Prod.fst).take ls.length
  n : ls.length ≤ vs.length
theorem SlP.fst {x : Nd} {sh : List Int} {us vs ls : List T2} (h : SlP x sh us vs ls) {j : Nat} (hj : j < ls.length) : (ls.getD j t0).1 = (vs.getD j t0).1 := by
  rw [← getD_fst, h.f, ← getD_fst vs]
  simp only [List.getD, List.getElem?_take]
  rw [if_pos hj]
theorem slS_1 {x : Nd} {sh : List Int} {us vs ls : List T2} (o : x.op = 1) : slS x sh us vs ls = zsOf sh := if_pos o
theorem slS_4 {x : Nd} {sh : List Int} {us vs ls : List T2} (o : x.op = 4) : slS x sh us vs ls = twoL 0 (twoL 2 (sprd (ls.getD x.a.toNat t0).1 (ls.getD x.a.toNat t0).2 sh) (sprd (vs.getD x.b.toNat t0).1 (vs.getD x.b.toNat t0).2 sh)) (twoL 2 (sprd (vs.getD x.a.toNat t0).1 (vs.getD x.a.toNat t0).2 sh) (sprd (ls.getD x.b.toNat t0).1 (ls.getD x.b.toNat t0).2 sh)) := by
  unfold slS; rw [if_neg (by omega), if_pos o]
theorem slS_12 {x : Nd} {sh : List Int} {us vs ls : List T2} (o : x.op = 12) : slS x sh us vs ls = twoL 0 (prL (ls.getD x.a.toNat t0).2 (vs.getD x.b.toNat t0).2 ((vs.getD x.a.toNat t0).1.getD 0 0).toNat ((vs.getD x.a.toNat t0).1.getD 1 0).toNat ((vs.getD x.b.toNat t0).1.getD 1 0).toNat) (prL (vs.getD x.a.toNat t0).2 (ls.getD x.b.toNat t0).2 ((vs.getD x.a.toNat t0).1.getD 0 0).toNat ((vs.getD x.a.toNat t0).1.getD 1 0).toNat ((vs.getD x.b.toNat t0).1.getD 1 0).toNat) := by
  unfold slS; rw [if_neg (by omega), if_neg (by omega), if_pos o]
theorem slS_o {x : Nd} {sh : List Int} {us vs ls : List T2} (o1 : x.op ≠ 1) (o4 : x.op ≠ 4) (o12 : x.op ≠ 12) : slS x sh us vs ls = (vS x sh us ls).2 := by
  unfold slS; rw [if_neg o1, if_neg o4, if_neg o12]
theorem slM_o {x : Nd} {sh : List Int} {us vs ls : List T2} (hp : lPre x sh us ls) (o1 : x.op ≠ 1) (o4 : x.op ≠ 4) (o12 : x.op ≠ 12) : slM x sh us vs ls = vlM x us ls := by
  unfold slM; rw [slS_o o1 o4 o12, ← vS_told hp, vS_fst hp]
def slTo (ns : List Nd) (ss : List (List Int)) (us vs : List T2) : Nat → Option (List T2)
  | 0 => some []
  | k + 1 => (slTo ns ss us vs k).bind fun ls => if (slM (ns.getD k default) (ss.getD k []) us vs ls).2.2 = true then some (ls ++ [((slM (ns.getD k default) (ss.getD k []) us vs ls).1, (slM (ns.getD k default) (ss.getD k []) us vs ls).2.1)]) else none
theorem slTo_t {ns : List Nd} {ss : List (List Int)} {us vs ls : List T2} {k : Nat} (h : slTo ns ss us vs k = some ls) (hp : (slM (ns.getD k default) (ss.getD k []) us vs ls).2.2 = true) : slTo ns ss us vs (k + 1) = some (ls ++ [((slM (ns.getD k default) (ss.getD k []) us vs ls).1, (slM (ns.getD k default) (ss.getD k []) us vs ls).2.1)]) := by
  rw [slTo, h]; exact if_pos hp
theorem slTo_f {ns : List Nd} {ss : List (List Int)} {us vs ls : List T2} {k : Nat} (h : slTo ns ss us vs k = some ls) (hp : (slM (ns.getD k default) (ss.getD k []) us vs ls).2.2 = false) : slTo ns ss us vs (k + 1) = none := by
  rw [slTo, h]; exact if_neg (by rw [hp]; decide)
theorem slTo_none {ns : List Nd} {ss : List (List Int)} {us vs : List T2} {k : Nat} (h : slTo ns ss us vs k = none) : ∀ m, k ≤ m → slTo ns ss us vs m = none
  | 0, hk => by
    have : k = 0 := by omega
    rw [← this]; exact h
  | m + 1, hk => by
    by_cases e : k = m + 1
    · rw [← e]; exact h
    · rw [slTo, slTo_none h m (by omega)]; rfl
theorem slTo_len {ns : List Nd} {ss : List (List Int)} {us vs : List T2} : ∀ {k : Nat} {ls : List T2}, slTo ns ss us vs k = some ls → ls.length = k
  | 0, ls, h => by cases h; rfl
  | k + 1, ls, h => by
    cases e : slTo ns ss us vs k with
    | none => rw [slTo, e] at h; cases h
    | some s =>
      cases hp : (slM (ns.getD k default) (ss.getD k []) us vs s).2.2 with
      | true => rw [slTo_t e hp] at h; cases h; rw [List.length_append, slTo_len e]; rfl
      | false => rw [slTo_f e hp] at h; cases h
theorem slM_t {x : Nd} {sh : List Int} {us vs ls : List T2} (h : (slM x sh us vs ls).2.2 = true) : tensorOk sh (slS x sh us vs ls) = true ∧ slM x sh us vs ls = (sh, slS x sh us vs ls, true) := by
  unfold slM told at h ⊢
  split at h
  · rename_i ht; exact ⟨ht, by rw [if_pos ht]⟩
  · cases h
theorem slTo_ok {ns : List Nd} {ss : List (List Int)} {us vs : List T2} : ∀ {k : Nat} {ls : List T2}, slTo ns ss us vs k = some ls → allT ls
  | 0, ls, h => by cases h; intro j hj; simp at hj
  | k + 1, ls, h => by
    cases e : slTo ns ss us vs k with
    | none => rw [slTo, e] at h; cases h
    | some s =>
      cases hp : (slM (ns.getD k default) (ss.getD k []) us vs s).2.2 with
      | true =>
        obtain ⟨ht, hm⟩ := slM_t hp
        rw [slTo_t e hp] at h; cases h; rw [hm]; exact allT_snoc (slTo_ok e) ht
      | false => rw [slTo_f e hp] at h; cases h
theorem slTo_fst {ns : List Nd} {ss : List (List Int)} {us vs : List T2} : ∀ {k : Nat} {ls : List T2}, k ≤ ss.length → slTo ns ss us vs k = some ls → ls.map Prod.fst = ss.take k
  | 0, ls, _, h => by cases h; simp
  | k + 1, ls, hk, h => by
    cases e : slTo ns ss us vs k with
    | none => rw [slTo, e] at h; cases h
    | some s =>
      cases hp : (slM (ns.getD k default) (ss.getD k []) us vs s).2.2 with
      | true =>
        obtain ⟨ht, hm⟩ := slM_t hp
        rw [slTo_t e hp] at h; cases h; rw [hm]
        have e2 : ss.take (k + 1) = ss.take k ++ [ss.getD k []] := by rw [List.take_add_one, getD_eq (d := []) (by omega)]; rfl
        rw [List.map_append, slTo_fst (by omega) e, e2]; rfl
      | false => rw [slTo_f e hp] at h; cases h
def AlC (xss : List (List Int)) (ns : List Nd) (ts us : List T2) : Prop := (vaM xss ns ts).2 = true ∧ smP xss ns ∧ inP xss ns us
instance (xss : List (List Int)) (ns : List Nd) (ts us : List T2) : Decidable (AlC xss ns ts us) := by unfold AlC; infer_instance
theorem vaM_true {xss : List (List Int)} {ns : List Nd} {ts : List T2} (h : (vaM xss ns ts).2 = true) : inP xss ns ts ∧ vaTo ns ts ns.length = some (vaM xss ns ts).1 := by
  by_cases hP : inP xss ns ts
  · cases e : vaTo ns ts ns.length with
    | some vs => refine ⟨hP, ?_⟩; rw [vaM_t hP e]
    | none => rw [vaM_n e] at h; cases h
  · rw [vaM_f hP] at h; cases h
def alM (xss : List (List Int)) (ns : List Nd) (ts us : List T2) : TM :=
  if AlC xss ns ts us then (match slTo ns (shM xss ns).1 us (vaM xss ns ts).1 ns.length with | some ls => ((ls.getD (ns.length - 1) t0).1, (ls.getD (ns.length - 1) t0).2, true) | none => noT) else noT
theorem alM_t {xss : List (List Int)} {ns : List Nd} {ts us ls : List T2} (h : AlC xss ns ts us) (e : slTo ns (shM xss ns).1 us (vaM xss ns ts).1 ns.length = some ls) : alM xss ns ts us = ((ls.getD (ns.length - 1) t0).1, (ls.getD (ns.length - 1) t0).2, true) := by unfold alM; rw [if_pos h, e]
theorem alM_n {xss : List (List Int)} {ns : List Nd} {ts us : List T2} (e : slTo ns (shM xss ns).1 us (vaM xss ns ts).1 ns.length = none) : alM xss ns ts us = noT := by unfold alM; rw [e]; split <;> rfl
theorem alM_f {xss : List (List Int)} {ns : List Nd} {ts us : List T2} (h : ¬ AlC xss ns ts us) : alM xss ns ts us = noT := if_neg h
theorem alM_len (xss : List (List Int)) (ns : List Nd) (ts us : List T2) : (alM xss ns ts us).1.length ≤ 3 ∧ (alM xss ns ts us).2.1.length ≤ 64 := by
  by_cases h : AlC xss ns ts us
  · cases e : slTo ns (shM xss ns).1 us (vaM xss ns ts).1 ns.length with
    | some ls =>
      rw [alM_t h e]
      have hl := slTo_len e
      have h1 := (shM_form h.2.2.1).1
      exact allT_len (slTo_ok e) (j := ns.length - 1) (by omega)
    | none => rw [alM_n e]; exact ⟨Nat.zero_le _, Nat.zero_le _⟩
  · rw [alM_f h]; exact ⟨Nat.zero_le _, Nat.zero_le _⟩
theorem SlP_of {xss : List (List Int)} {ns : List Nd} {ts us vs ls : List T2} {ss : List (List Int)} {k : Nat} (ht : inP xss ns ts) (hu : inP xss ns us) (hE : eP ns) (hs : shTo xss ns ns.length = some ss) (hv : vaTo ns ts ns.length = some vs) (hk : k < ns.length) (hl : slTo ns ss us vs k = some ls) : SlP (ns.getD k default) (ss.getD k []) us vs ls := by
  have hlen := slTo_len hl
  have hsl := shTo_len hs
  have hvl := vaTo_len hv
  have hf := slTo_fst (by omega) hl
  have hvf := va_shapes ht hE hs (Nat.le_refl _) hv
  rw [List.take_of_length_le (by omega)] at hvf
  exact ⟨lPre_of hu hE hs hk hlen (slTo_ok hl) hf, vaTo_ok ht hE (Nat.le_refl _) hv, by rw [hf, hvf, hlen], by omega⟩
end Go.Proofs.YtjmdhfjemaoebaaGreat
namespace Go.Proofs.YtjmdhfjemaoebaaGreat
set_option maxRecDepth 20000
open Go.RowKit Go.Am
set_option linter.unusedSimpArgs false
attribute [local irreducible] aPlan aGet aIf aLoop aCall RetB NextB CallB CallG aCut aSet aAppend
set_option maxHeartbeats 4000000 in
theorem plusNums_sound : Sound Tryz.prog 104 (fnL (ι := Nat × List Int × Nat × List Int) 3 (fun | (c, zs, d, qs) => [.sl c zs.length (zs.map (.int .i64)), .sl d qs.length (qs.map (.int .i64))]) (fun | (_, zs, _, qs) => qs.length = zs.length ∧ zs.length ≤ 1048576) (fun | (_, zs, _, qs) => twoL 0 zs qs)) := by
  refine sound_of Tryz.func104 rfl (enters_of Tryz.func104 (by kernel_rfl) (by kernel_rfl)) ?_
  rintro ⟨c, zs, d, qs⟩ hpre
  obtain ⟨hl, hz⟩ : qs.length = zs.length ∧ zs.length ≤ 1048576 := hpre
  have hmax : maxLen = 9223372036854775807 := rfl
  conv => whnf
  repeat' (first
    | ((first | refine fun (_ : _ ≤ maxLen) => ?_ | refine And.intro (And.intro (Int.le_refl _) (And.intro (by kernel_rfl) (And.intro rfl (by kernel_rfl)))) (And.intro (And.intro (by omega) (And.intro (bytes_le (b := 8) rfl (by omega)) (by omega))) ?_) | refine append_same ?_); conv => whnf))
  all_goals (first | (exfalso; omega) | skip)
  refine loop_u (ι := Nat × List Int) [false, true, false, false, false, true, false, false, false, false, false, true, true, true, false, false, false, false, false, false, false, false, false, false, false, false, false, false, false] (fun | (k, _) => [(13, .int .i64 k)]) (fun | (_, ws) => [(1, ws.map (.int .i64))]) (fun x => x.1 ≤ zs.length ∧ x.2.length = zs.length ∧ ∀ j, j < x.1 → x.2.getD j 0 = (twoL 0 zs qs).getD j 0) (fun x => zs.length - x.1) ((0, List.replicate zs.length 0)) ⟨Nat.zero_le _, by simp, fun j hj => absurd hj (Nat.not_lt_zero _)⟩ ?_ ?_
  · conv => whnf
    repeat' (first
      | exact trivial | exact rfl
      | exact pureL_ints _ _ | exact Or.inl (And.intro rfl rfl)
      | exact le_ints (rep_ints _ _) | refine And.intro ?_ ?_
      | exact Nat.le_of_ble_eq_true rfl)
  · rintro ⟨k, ws⟩ ⟨hk, hwl, hall⟩
    have hk : k ≤ zs.length := hk
    have hwl : ws.length = zs.length := hwl
    have hall : ∀ j, j < k → ws.getD j 0 = (twoL 0 zs qs).getD j 0 := hall
    by_cases hlt : k < zs.length
    · have hg : (twoL 0 zs qs).getD k 0 = IntKind.i64.wrap (zs.getD k 0 + qs.getD k 0) := (twoL_getD hlt).trans (two_0 rfl)
      conv => whnf
      repeat' (first
        | ((first | refine get_nat (by omega) ?_ | refine And.intro (by omega) ?_ | refine append_same ?_ | refine And.intro rfl (And.intro rfl (And.intro (by first | omega | (rw [List.length_map]; omega)) ?_)) | refine set_nat ?_ (by omega)); conv => whnf) | (refine aIf_dec (fun _ => ?_) (fun _ => ?_) <;> conv => whnf))
      all_goals (first | (exfalso; omega) | skip)
      refine next_u (k + 1, ws.set k ((twoL 0 zs qs).getD k 0)) (show zs.length - (k + 1) < zs.length - k by omega) ⟨(show k + 1 ≤ zs.length by omega), (show (ws.set k _).length = _ by simpa using hwl), fun j hj => ?_⟩ ?_
      · have hj : j < k + 1 := hj
        show (ws.set k ((twoL 0 zs qs).getD k 0)).getD j 0 = _
        rw [getD_set (by omega)]
        split
        · rename_i e'; rw [e']
        · exact hall j (by omega)
      · rw [hg]
        conv => whnf
        repeat' (first
          | exact trivial | exact rfl
          | exact pureL_ints _ _ | exact Or.inl (And.intro rfl rfl)
          | exact le_ints rfl | refine And.intro ?_ ?_
          | exact Nat.le_of_ble_eq_true rfl | exact int_eq (by rw [IntWalk.i64_in _ (by omega)] <;> omega))
    · have hws : ws = twoL 0 zs qs := getD_ext (by rw [twoL_length, hwl]) fun j hj => by
        rw [twoL_length] at hj
        exact hall j (by omega)
      subst hws
      conv => whnf
      repeat' (first
        | ((first | refine get_nat (by omega) ?_ | refine And.intro (by omega) ?_ | refine append_same ?_ | refine set_nat ?_ (by omega)); conv => whnf) | (refine aIf_dec (fun _ => ?_) (fun _ => ?_) <;> conv => whnf))
      all_goals (first | (exfalso; omega) | skip)
      exact retL rfl rfl rfl (twoL_length _ _ _).symm
theorem plusNums_call {c d : Nat} {zs qs : List Int} {env : List AV} {rows : List Row} {ctr low : Nat} {k : AV → St → Prop} (hpre : qs.length = zs.length ∧ zs.length ≤ 1048576) (h : k (.ref rows.length ctr 0 (twoL 0 zs qs).length) ⟨env, rows ++ [⟨ctr, 3, 1, (twoL 0 zs qs).map (.int .i64)⟩], ctr + 1, low⟩) :
    CallB Tryz.prog 104 ⟨env, rows, ctr, low⟩ [.sl c zs.length (zs.map (.int .i64)), .sl d qs.length (qs.map (.int .i64))] k := callL_in plusNums_sound (c, zs, d, qs) hpre h
def tmL (op : Int) (sh xs zs ps qs : List Int) : List Int := if op = 12 then prL zs qs (xs.getD 0 0).toNat (xs.getD 1 0).toNat (ps.getD 1 0).toNat else twoL 2 (sprd xs zs sh) (sprd ps qs sh)
def tmP (op : Int) (sh xs zs ps qs : List Int) : Prop := (op = 12 → psP xs zs ps qs) ∧ (op ≠ 12 → EtP sh xs zs ps qs)
set_option maxHeartbeats 4000000 in
theorem timesNums_sound : Sound Tryz.prog 101 (fnL (ι := Int × Nat × List Int × Nat × List Int × Nat × List Int × Nat × List Int × Nat × List Int) 3 (fun | (op, g, sh, c, xs, d, zs, e, ps, f, qs) => [.int .i64 op, .sl g sh.length (sh.map (.int .i64)), .agg [.sl c xs.length (xs.map (.int .i64)), .sl d zs.length (zs.map (.int .i64))], .agg [.sl e ps.length (ps.map (.int .i64)), .sl f qs.length (qs.map (.int .i64))]]) (fun | (op, _, sh, _, xs, _, zs, _, ps, _, qs) => tmP op sh xs zs ps qs) (fun | (op, _, sh, _, xs, _, zs, _, ps, _, qs) => tmL op sh xs zs ps qs)) := by
  refine sound_of Tryz.func101 rfl (enters_of Tryz.func101 (by kernel_rfl) (by kernel_rfl)) ?_
  rintro ⟨op, g, sh, c, xs, d, zs, e, ps, f, qs⟩ hpre
  obtain ⟨h1, h2⟩ : tmP op sh xs zs ps qs := hpre
  have hmax : maxLen = 9223372036854775807 := rfl
  by_cases o : op = 12
  · have hp := h1 o
    have hM : tmL op sh xs zs ps qs = prL zs qs (xs.getD 0 0).toNat (xs.getD 1 0).toNat (ps.getD 1 0).toNat := if_pos o
    conv => whnf
    repeat' (first
      | ((first | refine And.intro (by omega) ?_ | refine load_same ?_ | refine And.intro rfl (And.intro (List.cons_ne_nil _ _) ?_) | refine And.intro (Nat.le_of_ble_eq_true rfl) ?_ | refine callG_t ?_ | refine append_same ?_ | refine productSums_call (by assumption) ?_ | refine takeN_in ?_ | refine And.intro (pureL_ints _ _) ?_ | refine And.intro (by kernel_rfl) ?_); conv => whnf) | (refine aIf_dec (fun _ => ?_) (fun _ => ?_) <;> conv => whnf))
    all_goals (first | (exfalso; omega) | skip)
    all_goals exact retLM7 hM rfl rfl rfl rfl
  · have hp := h2 o
    have hM : tmL op sh xs zs ps qs = twoL 2 (sprd xs zs sh) (sprd ps qs sh) := if_neg o
    conv => whnf
    repeat' (first
      | ((first | refine And.intro (by omega) ?_ | refine load_same ?_ | refine And.intro rfl (And.intro (List.cons_ne_nil _ _) ?_) | refine And.intro (Nat.le_of_ble_eq_true rfl) ?_ | refine callG_t ?_ | refine append_same ?_ | refine eachTwo_call (by assumption) ?_ | refine takeN_in ?_ | refine And.intro (pureL_ints _ _) ?_ | refine And.intro (by kernel_rfl) ?_); conv => whnf) | (refine aIf_dec (fun _ => ?_) (fun _ => ?_) <;> conv => whnf))
    all_goals (first | (exfalso; omega) | skip)
    all_goals exact retLM7 hM rfl rfl rfl rfl
theorem timesNums_call {op : Int} {g c d e f : Nat} {sh xs zs ps qs : List Int} {env : List AV} {rows : List Row} {ctr low : Nat} {k : AV → St → Prop} (hpre : tmP op sh xs zs ps qs) (h : k (.ref rows.length ctr 0 (tmL op sh xs zs ps qs).length) ⟨env, rows ++ [⟨ctr, 3, 1, (tmL op sh xs zs ps qs).map (.int .i64)⟩], ctr + 1, low⟩) :
    CallB Tryz.prog 101 ⟨env, rows, ctr, low⟩ [.int .i64 op, .sl g sh.length (sh.map (.int .i64)), .agg [.sl c xs.length (xs.map (.int .i64)), .sl d zs.length (zs.map (.int .i64))], .agg [.sl e ps.length (ps.map (.int .i64)), .sl f qs.length (qs.map (.int .i64))]] k := callL_in timesNums_sound (op, g, sh, c, xs, d, zs, e, ps, f, qs) hpre h
end Go.Proofs.YtjmdhfjemaoebaaGreat
