import Derived.Test.YtjmdhfjemaoebaaGreatM0x35
import Derived.Test.YtjmdhfjemaoebaaGreatM0x39
import Derived.Test.YtjmdhfjemaoebaaGreatM0x14
import Derived.Test.YtjmdhfjemaoebaaGreatM0x36
import Derived.Test.YtjmdhfjemaoebaaGreatM0x33
import Derived.Test.YtjmdhfjemaoebaaGreatM0x31
namespace Go.Proofs.YtjmdhfjemaoebaaGreat
set_option maxRecDepth 20000
open Go.RowKit Go.Am
set_option linter.unusedSimpArgs false
def chB (xss : List (List Int)) (ns : List Nd) (c : Nat) (k : Nat) : Bool := if c = 0 then decide (drP xss ns k) else (cX ns (shM xss ns).1 c k).isSome
theorem chB_0 {xss : List (List Int)} {ns : List Nd} {k : Nat} : chB xss ns 0 k = decide (drP xss ns k) := if_pos rfl
theorem chB_s {xss : List (List Int)} {ns : List Nd} {c k : Nat} (h : c ≠ 0) : chB xss ns c k = (cX ns (shM xss ns).1 c k).isSome := if_neg h
def rowC (xss : List (List Int)) (ns : List Nd) (c : Nat) : Nat → List (List Int)
  | 0 => []
  | k + 1 => if chB xss ns c k = true then rowC xss ns c k ++ [[(c : Int), (k : Int)]] else rowC xss ns c k
def allC (xss : List (List Int)) (ns : List Nd) : Nat → List (List Int)
  | 0 => []
  | c + 1 => allC xss ns c ++ rowC xss ns c ns.length
def chL (xss : List (List Int)) (ns : List Nd) : List (List Int) := if (shM xss ns).2 = true then allC xss ns 9 else []
theorem rowC_t {xss : List (List Int)} {ns : List Nd} {c k : Nat} (h : chB xss ns c k = true) : rowC xss ns c (k + 1) = rowC xss ns c k ++ [[(c : Int), (k : Int)]] := if_pos h
theorem rowC_f {xss : List (List Int)} {ns : List Nd} {c k : Nat} (h : chB xss ns c k = false) : rowC xss ns c (k + 1) = rowC xss ns c k := if_neg (by rw [h]; decide)
theorem rowC_le (xss : List (List Int)) (ns : List Nd) (c : Nat) : ∀ k, (rowC xss ns c k).length ≤ k
  | 0 => Nat.le_refl _
  | k + 1 => by
    have := rowC_le xss ns c k
    unfold rowC
    split
    · rw [List.length_append, List.length_singleton]; omega
    · omega
theorem allC_le (xss : List (List Int)) (ns : List Nd) : ∀ c, (allC xss ns c).length ≤ c * ns.length
  | 0 => Nat.zero_le _
  | c + 1 => by
    have h1 := allC_le xss ns c
    have h2 := rowC_le xss ns c ns.length
    rw [allC, List.length_append, Nat.add_mul]; omega
def chP (xss : List (List Int)) (ns : List Nd) (x : List Int) : Prop := ∃ c k : Nat, x = [(c : Int), (k : Int)] ∧ c ≤ 8 ∧ k < ns.length ∧ chB xss ns c k = true
theorem rowC_p {xss : List (List Int)} {ns : List Nd} {c : Nat} (hc : c ≤ 8) : ∀ k, k ≤ ns.length → ∀ x ∈ rowC xss ns c k, chP xss ns x
  | 0, _, x, hx => by cases hx
  | k + 1, hk, x, hx => by
    cases hb : chB xss ns c k with
    | true =>
      rw [rowC_t hb] at hx
      rcases List.mem_append.1 hx with hx | hx
      · exact rowC_p hc k (by omega) x hx
      · simp at hx
        exact ⟨c, k, hx, hc, by omega, hb⟩
    | false =>
      rw [rowC_f hb] at hx
      exact rowC_p hc k (by omega) x hx
theorem allC_p {xss : List (List Int)} {ns : List Nd} : ∀ c, c ≤ 9 → ∀ x ∈ allC xss ns c, chP xss ns x
  | 0, _, x, hx => by cases hx
  | c + 1, hc, x, hx => by
    rcases List.mem_append.1 hx with hx | hx
    · exact allC_p c (by omega) x hx
    · exact rowC_p (by omega) _ (Nat.le_refl _) x hx
theorem chL_p {xss : List (List Int)} {ns : List Nd} {x : List Int} (hx : x ∈ chL xss ns) : (shM xss ns).2 = true ∧ chP xss ns x := by
  unfold chL at hx
  split at hx
  · exact ⟨by assumption, allC_p 9 (Nat.le_refl _) x hx⟩
  · cases hx
theorem chB_ok {xss : List (List Int)} {ns : List Nd} {c k : Nat} (hM : (shM xss ns).2 = true) (hk : k < ns.length) : chB xss ns c k = (okC xss ns c k && (decide (c ≠ 0) || !blB ns k)) := by
  by_cases hc : c = 0
  · subst hc
    rw [chB_0, dr_bl hM hk, show ((0 : Nat) : Int) = 0 from rfl, okC_0]
    simp
  · rw [chB_s hc, okC_s (by omega), decide_eq_true hc]
    simp
theorem le_snoc2 {t : TypeId} {L : List (List Int)} {a b : Int} {u : AV} {p : Prop} : (pureL ((L.map (ownI t) ++ [u]).set L.length (.own t 1 2 [.int .i64 a, .int .i64 b])) = true ∧ (L ++ [[a, b]]).map (ownI t) = (L.map (ownI t) ++ [u]).set L.length (.own t 1 2 [.int .i64 a, .int .i64 b])) ∨ p := le_snocO (xs := [a, b])
def sChangesOf : CSpec := fnR (ι := Nat × List (List Int) × List Nd) 38 1 (fun | (c, xss, ns) => [.agg [.sl c xss.length (xss.map (slI c)), .sl c ns.length (ns.flatMap (ndC c))]]) (fun | (_, _, ns) => eP ns) (fun | (_, xss, ns) => (chL xss ns).length) (fun | (_, xss, ns) => (chL xss ns).map (ownI 3))
theorem retChL {env : List AV} {rows : List Row} {ctr τ ver m : Nat} {t tt : TypeId} {xss : List (List Int)} {ns : List Nd} {L : List (List Int)} {cells : List AV} (hL : chL xss ns = L) (hr : rows[τ]? = some ⟨ver, tt, 1, cells⟩) (hc : cells = L.map (ownI t)) (hm : m = L.length) :
    RetB ⟨env, rows, ctr, 0⟩ [] (fun r ic news => ic = [] ∧ r = .ref 0 0 0 (chL xss ns).length ∧ news = [⟨0, tt, 1, (chL xss ns).map (ownI t)⟩]) (.ref τ ver 0 m) := by
  subst hL; subst hc
  exact retR hr (protL_oi _ _) hm rfl
end Go.Proofs.YtjmdhfjemaoebaaGreat
namespace Go.Am
open Go.RowKit
theorem callG_tree {P : Program} {f : FuncId} {s : St} {args us : List AV} {k : AV → St → Prop} (h1 : callArgs s [] [] args = some us) (h : CallB P f s us k) : CallG P f s args k := by
  obtain ⟨sp, hs, hio, x, rfl, hins, hpre, hk⟩ := h
  refine callG_x ⟨[], sp, hs, sp.args x, [], List.nodup_nil, by rw [hio]; exact h1, rfl, x, rfl, hins.symm, hpre, fun r ic news hp hic => ?_⟩
  have : ic = [] := List.eq_nil_of_length_eq_zero (by simpa using hic)
  subst this
  exact hk r news hp
theorem to_swap {s s' : St} (i j : Nat) (bs : List Bool) (ri rj : Row) (hi : s.rows[i]? = some ri) (hj : s.rows[j]? = some rj) (hne : i ≠ j) (hli : s.low ≤ i) (hlj : s.low ≤ j)
    (h : (s.swapAt i j bs ri rj).to s') : s.to s' := by
  obtain ⟨s1, h1, h2⟩ := h
  exact ⟨s1, .swap s s1 i j bs ri rj hi hj hne hli hlj h1, h2⟩
end Go.Am
namespace Go.Am
open Go.RowKit
mutual
def AV.bare : AV → Bool
  | .sl _ _ _ => false
  | .rd _ => false
  | .tup cs => bareL cs
  | .agg cs => bareL cs
  | .own _ _ _ cs => bareL cs
  | .ref _ _ _ _ => true
  | .ptr _ _ _ => true
  | .un => true
  | .int _ _ => true
  | .bool _ => true
  | .str _ => true
  | .nil => true
def bareL : List AV → Bool
  | [] => true
  | u :: us => u.bare && bareL us
end
theorem bareL_get : ∀ {us : List AV} {j : Nat} {u : AV}, bareL us = true → us[j]? = some u → u.bare = true
  | [], j, u, _, h => by simp at h
  | x :: us, j, u, hp, h => by
    simp only [bareL, Bool.and_eq_true] at hp
    cases j with
    | zero => simp at h; subst h; exact hp.1
    | succ j => exact bareL_get hp.2 (by simpa using h)
theorem bareL_app : ∀ {us vs : List AV}, bareL us = true → bareL vs = true → bareL (us ++ vs) = true
  | [], _, _, h => h
  | u :: us, vs, h, h' => by
    have h : (u.bare && bareL us) = true := h
    rw [Bool.and_eq_true] at h
    show (u.bare && bareL (us ++ vs)) = true
    rw [h.1, bareL_app h.2 h']; rfl
theorem bareL_map {α : Type} {f : α → AV} (h : ∀ x, (f x).bare = true) : ∀ (l : List α), bareL (l.map f) = true
  | [] => rfl
  | x :: l => by rw [List.map_cons]; show ((f x).bare && bareL (l.map f)) = true; rw [h, bareL_map h l]; rfl
theorem bareL_flat {α : Type} {f : α → List AV} (h : ∀ x, bareL (f x) = true) : ∀ (l : List α), bareL (l.flatMap f) = true
  | [] => rfl
  | x :: l => by rw [List.flatMap_cons]; exact bareL_app (h x) (bareL_flat h l)
theorem bareL_ints (k : IntKind) (zs : List Int) : bareL (zs.map (.int k)) = true := bareL_map (fun _ => rfl) zs
theorem ownI_bare (t : TypeId) (xs : List Int) : (ownI t xs).bare = true := bareL_ints _ _
theorem bareL_oi (t : TypeId) (xss : List (List Int)) : bareL (xss.map (ownI t)) = true := bareL_map (ownI_bare t) _
theorem bareL_ond (t : TypeId) (ns : List Nd) : bareL (ns.flatMap (ndO t)) = true := bareL_flat (fun n => by simp [ndO, bareL, AV.bare, ownI_bare]) _
mutual
def AV.one : AV → AV
  | .sl _ n cs => .sl 1 n (oneL cs)
  | .tup cs => .tup (oneL cs)
  | .agg cs => .agg (oneL cs)
  | .rd cs => .rd (oneL cs)
  | .own e z n cs => .own e z n cs
  | .ref t v o n => .ref t v o n
  | .ptr t v o => .ptr t v o
  | .un => .un
  | .int k n => .int k n
  | .bool b => .bool b
  | .str s => .str s
  | .nil => .nil
def oneL : List AV → List AV
  | [] => []
  | u :: us => u.one :: oneL us
end
theorem oneL_length : ∀ (us : List AV), (oneL us).length = us.length
  | [] => rfl
  | u :: us => by simp [oneL, oneL_length us]
theorem oneL_get : ∀ (us : List AV) (j : Nat), (oneL us)[j]? = (us[j]?).map AV.one
  | [], j => by simp [oneL]
  | x :: us, j => by
    cases j with
    | zero => simp [oneL]
    | succ j => simpa [oneL] using oneL_get us j
theorem oneL_app : ∀ (us vs : List AV), oneL (us ++ vs) = oneL us ++ oneL vs
  | [], vs => rfl
  | u :: us, vs => by show u.one :: oneL (us ++ vs) = u.one :: (oneL us ++ oneL vs); rw [oneL_app us vs]
theorem oneL_map {α : Type} {f g : α → AV} (h : ∀ x, (f x).one = g x) : ∀ (l : List α), oneL (l.map f) = l.map g
  | [] => rfl
  | x :: l => by show (f x).one :: oneL (l.map f) = g x :: l.map g; rw [h, oneL_map h l]
theorem oneL_flat {α : Type} {f g : α → List AV} (h : ∀ x, oneL (f x) = g x) : ∀ (l : List α), oneL (l.flatMap f) = l.flatMap g
  | [] => rfl
  | x :: l => by rw [List.flatMap_cons, List.flatMap_cons, oneL_app, h, oneL_flat h l]
theorem oneL_ints (k : IntKind) (zs : List Int) : oneL (zs.map (.int k)) = zs.map (.int k) := oneL_map (fun _ => rfl) zs
theorem slI_one (c : Nat) (xs : List Int) : (slI c xs).one = slI 1 xs := by
  show AV.sl 1 xs.length (oneL (xs.map (.int .i64))) = _
  rw [oneL_ints]; rfl
theorem oneL_ii (c : Nat) (xss : List (List Int)) : oneL (xss.map (slI c)) = xss.map (slI 1) := oneL_map (slI_one c) _
theorem oneL_nd (c : Nat) (ns : List Nd) : oneL (ns.flatMap (ndC c)) = ns.flatMap (ndC 1) := oneL_flat (fun n => by
  show [AV.int .i64 n.op, AV.int .i64 n.a, AV.int .i64 n.b, (slI c n.l).one] = _
  rw [slI_one]; rfl) _
section
variable {D D' : Nat → Prop} {w : World} {φ : Places} {rows : List Row} {ctr : Nat}
theorem VR.chD {v : Value} {u : AV} (h : VR D w φ rows ctr v u) (hb : u.bare = true) : VR D' w φ rows ctr v u := by
  induction h with
  | un v => exact .un v
  | int k n => exact .int k n
  | bool b => exact .bool b
  | str s => exact .str s
  | nil => exact .nil
  | sl0 A cap c hm => exact .sl0 A cap c hm
  | sl ad c n cap cells vs hs hF hD hlt hn hm hl hc h1 hv ih => simp [AV.bare] at hb
  | rd ad cells vs hs hF hlt hl hc h1 hv ih => simp [AV.bare] at hb
  | agg cs cells hl h1 hv ih =>
    simp only [AV.bare] at hb
    exact .agg cs cells hl h1 (fun j v u hv' hu => ih j v u hv' hu (bareL_get hb hu))
  | tup vs us hl hv ih =>
    simp only [AV.bare] at hb
    exact .tup vs us hl (fun j v u hv' hu => ih j v u hv' hu (bareL_get hb hu))
  | ref t ver off n v hlt h1 h => exact .ref t ver off n v hlt h1 h
  | ptr t ver off v hlt h1 h => exact .ptr t ver off v hlt h1 h
theorem CV.chD {v : Value} {u : AV} {F : Foot} (h : CV D w φ rows ctr v u F) (hb : u.bare = true) : CV D' w φ rows ctr v u F := by
  induction h with
  | vr v u h => exact .vr v u (h.chD hb)
  | own0 e z hz => exact .own0 e z hz
  | own e z n g cap cur cells vs F hz hg hs hn hm hl hv hF hc ih =>
    simp only [AV.bare] at hb
    exact .own e z n g cap cur cells vs F hz hg hs hn hm hl hv hF fun j u hu => ih j u hu (bareL_get hb hu)
theorem VR.one {v : Value} {u : AV} (h : VR D w φ rows ctr v u) (hD' : ∀ b, b < w.heap.size → ¬ φ.O b → D' b) : VR D' w φ rows ctr v u.one := by
  induction h with
  | un v => exact .un v
  | int k n => exact .int k n
  | bool b => exact .bool b
  | str s => exact .str s
  | nil => exact .nil
  | sl0 A cap c hm => exact .sl0 A cap 1 hm
  | sl ad c n cap cells vs hs hF hD hlt hn hm hl hc h1 hv ih =>
    refine .sl ad 1 n cap (oneL cells) vs hs hF (fun _ => hD' _ hlt hF) hlt hn hm (by rw [oneL_length]; exact hl) hc h1 (fun j v u hv' hu => ?_)
    rw [oneL_get, Option.map_eq_some_iff] at hu
    obtain ⟨u', hu', rfl⟩ := hu
    exact ih j v u' hv' hu'
  | rd ad cells vs hs hF hlt hl hc h1 hv ih =>
    refine .rd ad (oneL cells) vs hs hF hlt (by rw [oneL_length]; exact hl) hc h1 (fun j v u hv' hu => ?_)
    rw [oneL_get, Option.map_eq_some_iff] at hu
    obtain ⟨u', hu', rfl⟩ := hu
    exact ih j v u' hv' hu'
  | agg cs cells hl h1 hv ih =>
    refine .agg cs (oneL cells) (by rw [oneL_length]; exact hl) h1 (fun j v u hv' hu => ?_)
    rw [oneL_get, Option.map_eq_some_iff] at hu
    obtain ⟨u', hu', rfl⟩ := hu
    exact ih j v u' hv' hu'
  | tup vs us hl hv ih =>
    refine .tup vs (oneL us) (by rw [oneL_length]; exact hl) (fun j v u hv' hu => ?_)
    rw [oneL_get, Option.map_eq_some_iff] at hu
    obtain ⟨u', hu', rfl⟩ := hu
    exact ih j v u' hv' hu'
  | ref t ver off n v hlt h1 h => exact .ref t ver off n v hlt h1 h
  | ptr t ver off v hlt h1 h => exact .ptr t ver off v hlt h1 h
end
theorem sound_one {P : Program} {f : FuncId} {sp : CSpec} (args0 : sp.ι → List AV) (hs : Sound P f sp) (hins : ∀ x, sp.ins x = []) (ha : ∀ x, sp.args x = oneL (args0 x))
    (hb : ∀ x r ic news, sp.post x r ic news → r.bare = true ∧ ∀ n ∈ news, bareL n.cells = true) : Sound P f { sp with args := args0 } := by
  refine ⟨hs.1, fun x hpre D w vs φ hsr hver => ?_⟩
  have hsr : SR D w φ vs.toList ⟨args0 x, sp.ins x, 1, (sp.ins x).length⟩ := hsr
  obtain ⟨ω, hne⟩ := hsr.nest
  have hi := hins x
  have hsr' : SR (fun b => b < w.heap.size ∧ ¬ φ.O b) w φ vs.toList ⟨sp.args x, sp.ins x, 1, (sp.ins x).length⟩ :=
    ⟨fun g hg hD => hD.2 hg, fun b hb => hb.1, hsr.len, hsr.lo, hsr.inj, hsr.lt, hsr.occ, hsr.ver,
      ⟨ω, fun t r ob hr => by (have hr : (sp.ins x)[t]? = some r := hr; rw [hi] at hr; simp at hr), hne.out, hne.ap⟩, hsr.sz0,
      by show vs.toList.length = (sp.args x).length; rw [ha, oneL_length]; exact hsr.elen, fun i v u hv hu => by
        have hu : (sp.args x)[i]? = some u := hu
        rw [ha, oneL_get, Option.map_eq_some_iff] at hu
        obtain ⟨u', hu', rfl⟩ := hu
        exact (hsr.env i v u' hv hu').one fun b h1 h2 => ⟨h1, h2⟩⟩
  refine (hs.2 x hpre _ w vs φ hsr' (fun r hr => by rw [hi] at hr; simp at hr)).mono ?_
  rintro e w' ⟨v, r, ic, news, φ', rfl, hp, hic, hicp, hnews, hres, hkeep, hsr2, hlow, hfresh⟩
  obtain ⟨b1, b2⟩ := hb x r ic news hp
  obtain ⟨ω', hne'⟩ := hsr2.nest
  have hrows : upd (sp.ins x) ic ++ news = news := by rw [hi]; simp [upd]
  refine ⟨v, r, ic, news, φ', rfl, hp, hic, hicp, hnews, hres, hkeep, ?_, hlow, hfresh⟩
  refine ⟨fun g hg hD => ?_, fun b hb => Nat.lt_of_lt_of_le (hsr.dlt b hb) hkeep.size, hsr2.len, hsr2.lo, hsr2.inj, hsr2.lt, hsr2.occ, hsr2.ver,
    ⟨ω', fun t r0 ob hr hob => ?_, hne'.out, hne'.ap⟩, hsr2.sz0, hsr2.elen, fun i v' u hv hu => ?_⟩
  · rcases hfresh g hg with h | h
    · exact hsr.dis g h hD
    · have := hsr.dlt g hD; omega
  · have hrow := hne'.row t r0 ob hr hob
    have hr' : news[t]? = some r0 := by rw [← hrows]; exact hr
    have hbr := b2 r0 (List.mem_of_getElem? hr')
    cases ob with
    | none => exact hrow
    | some g =>
      obtain ⟨cur, d1, d2, d3, d4⟩ := hrow
      exact ⟨cur, d1, d2, d3, fun j u hu => by
        obtain ⟨v', f1, f2, f3⟩ := d4 j u hu
        exact ⟨v', f1, f2, f3.chD (bareL_get hbr hu)⟩⟩
  · have hu' : [r][i]? = some u := hu
    have e : u = r := by
      cases i with
      | zero => simpa using hu'.symm
      | succ i => simp at hu'
    exact (hsr2.env i v' u hv hu).chD (by rw [e]; exact b1)
abbrev MN := List (Nat × Nd)
def mnC (x : Nat × Nd) : List AV := ndC x.1 x.2
theorem mnC_length (x : Nat × Nd) : (mnC x).length = 4 := rfl
theorem mnC_pure (x : Nat × Nd) : pureL (mnC x) = true := ndC_pure _ _
theorem mn_all (g : Nat) (ns : List Nd) : (ns.map fun n => (g, n)).flatMap mnC = ns.flatMap (ndC g) := by
  rw [List.flatMap_map]; rfl
theorem mn_snd (g : Nat) (ns : List Nd) : (ns.map fun n => (g, n)).map Prod.snd = ns := by
  rw [List.map_map]; exact List.map_id _
theorem mn_getD (M : MN) (k : Nat) : (M.map Prod.snd).getD k default = (M.getD k default).2 := by
  simp only [List.getD, List.getElem?_map]
  cases M[k]? <;> rfl
theorem pureL_mn (M : MN) : pureL (M.flatMap mnC) = true := pureL_flat mnC_pure _
theorem part_mn_n {k : Nat} {M : MN} {K : AV → Prop} (h : k < M.length) (hk : K (.agg (mnC (M.getD k default)))) :
    aTakeN 4 ((M.flatMap mnC).drop ((k : Int).toNat * 4)) K := part_flat mnC_length (fun _ => rfl) default (by rw [Int.toNat_natCast]) h hk
theorem tr_mnC {f : Nat} (x : Nat × Nd) : (mnC x).mapM (AV.tr (f + 2)) = some (mnC x) := by
  have e : AV.tr (f + 2) (slI x.1 x.2.l) = some (slI x.1 x.2.l) := by
    show (if (slI x.1 x.2.l).pure = true then some (slI x.1 x.2.l) else none) = some _
    rw [if_pos (slI_pure _ _)]
  show ([AV.int .i64 x.2.op, AV.int .i64 x.2.a, AV.int .i64 x.2.b, slI x.1 x.2.l]).mapM (AV.tr (f + 2)) = _
  simp only [List.mapM_cons, List.mapM_nil, e]
  rfl
end Go.Am
namespace Go.Am
open Go.RowKit
abbrev Ex := List (List Int) × List Nd
def fnEB {ι : Type} (t tt tn : TypeId) (args : ι → List AV) (pre : ι → Prop) (M : ι → Ex) (b : ι → Bool) : CSpec :=
  { ι := ι, inout := [], args := args, ins := fun _ => [], pre := pre, post := fun x r ic news => ic = [] ∧ r = .tup [.agg [.ref 0 0 0 (M x).1.length, .ref 1 0 0 (M x).2.length], .bool (b x)] ∧ news = [⟨0, tt, 1, (M x).1.map (ownI t)⟩, ⟨0, tn, 4, (M x).2.flatMap (ndO t)⟩] }
theorem callEB_in {P : Program} {f : FuncId} {ι : Type} {t tt tn : TypeId} {args : ι → List AV} {pre : ι → Prop} {M : ι → Ex} {b : ι → Bool} (hs : Sound P f (fnEB t tt tn args pre M b)) (x : ι) (hpre : pre x) {env : List AV} {rows : List Row} {ctr low : Nat} {k : AV → St → Prop}
    (hk : k (.tup [.agg [.ref rows.length ctr 0 (M x).1.length, .ref (rows.length + 1) ctr 0 (M x).2.length], .bool (b x)]) ⟨env, rows ++ [⟨ctr, tt, 1, (M x).1.map (ownI t)⟩, ⟨ctr, tn, 4, (M x).2.flatMap (ndO t)⟩], ctr + 1, low⟩) : CallB P f ⟨env, rows, ctr, low⟩ (args x) k := callB_in (sp := fnEB t tt tn args pre M b) hs rfl x rfl hpre (by
  rintro r news ⟨-, rfl, rfl⟩
  rw [news_prot2 (protL_oi _ _) (protL_ond _ _)]
  simpa [AV.back, backL, backT, backV, Nat.add_comm] using hk)
theorem retEB {env : List AV} {rows : List Row} {ctr τ ver τ' ver' m1 m2 : Nat} {t tt tn : TypeId} {cells cells' : List AV} {M : Ex} {xss : List (List Int)} {ns : List Nd} {b b' : Bool} (hM : M = (xss, ns)) (hb : b = b') (hne : τ ≠ τ') (hr : rows[τ]? = some ⟨ver, tt, 1, cells⟩) (hr' : rows[τ']? = some ⟨ver', tn, 4, cells'⟩) (hc : cells = xss.map (ownI t)) (hc' : cells' = ns.flatMap (ndO t)) (hm : m1 = xss.length) (hm' : m2 = ns.length) :
    RetB ⟨env, rows, ctr, 0⟩ [] (fun r ic news => ic = [] ∧ r = .tup [.agg [.ref 0 0 0 M.1.length, .ref 1 0 0 M.2.length], .bool b'] ∧ news = [⟨0, tt, 1, M.1.map (ownI t)⟩, ⟨0, tn, 4, M.2.flatMap (ndO t)⟩]) (.tup [.agg [.ref τ ver 0 m1, .ref τ' ver' 0 m2], .bool b]) := by
  subst hM; subst hb; subst hc; subst hc'; subst hm; subst hm'
  refine retP1 (Q := fun r news => r = .tup [.agg [.ref 0 0 0 xss.length, .ref 1 0 0 ns.length], .bool b] ∧ news = [⟨0, tt, 1, xss.map (ownI t)⟩, ⟨0, tn, 4, ns.flatMap (ndO t)⟩]) (L := [τ, τ']) (by simpa using hne) ?_ ?_ ⟨rfl, rfl⟩
  · simp [insOf, hr, hr', protL_ren (protL_oi t xss), protL_ren (protL_ond t ns)]
  · have : (τ == τ') = false := by simpa using hne
    simp [AV.ren, renL, hr, hr', List.idxOf, List.findIdx_cons, this]
theorem retE2 {env : List AV} {rows : List Row} {ctr τ ver τ' ver' m1 m2 m1' m2' : Nat} {t tt tn : TypeId} {cells cells' : List AV} {xss : List (List Int)} {ns : List Nd} (hne : τ ≠ τ') (hr : rows[τ]? = some ⟨ver, tt, 1, cells⟩) (hr' : rows[τ']? = some ⟨ver', tn, 4, cells'⟩) (hc : cells = xss.map (ownI t)) (hc' : cells' = ns.flatMap (ndO t)) (hm : m1 = m1') (hm' : m2 = m2') :
    RetB ⟨env, rows, ctr, 0⟩ [] (fun r ic news => ic = [] ∧ r = .agg [.ref 0 0 0 m1', .ref 1 0 0 m2'] ∧ news = [⟨0, tt, 1, xss.map (ownI t)⟩, ⟨0, tn, 4, ns.flatMap (ndO t)⟩]) (.agg [.ref τ ver 0 m1, .ref τ' ver' 0 m2]) := by
  subst hc; subst hc'
  exact retR2 hne hr hr' (protL_oi _ _) (protL_ond _ _) hm hm' rfl rfl
theorem takeN_snoc {ns : List Nd} {k : Nat} (h : k < ns.length) : ns.take (k + 1) = ns.take k ++ [ns.getD k default] := by
  rw [List.take_add_one, getD_eq (d := default) h]; rfl
theorem takeI_snoc {xss : List (List Int)} {k : Nat} (h : k < xss.length) : xss.take (k + 1) = xss.take k ++ [xss.getD k []] := by
  rw [List.take_add_one, getD_eq (d := []) h]; rfl
theorem le_listI {t : TypeId} {xss : List (List Int)} {k : Nat} {u : AV} {p : Prop} (h : k < xss.length) : (pureL (((xss.take k).map (ownI t) ++ [u]).set k (ownI t (xss.getD k []))) = true ∧ (xss.take (k + 1)).map (ownI t) = ((xss.take k).map (ownI t) ++ [u]).set k (ownI t (xss.getD k []))) ∨ p := by
  refine le_cells ?_ (pureL_oi _ _)
  rw [List.set_append_right _ _ (by simp; omega), takeI_snoc h]
  have e : k - ((xss.take k).map (ownI t)).length = 0 := by simp; omega
  rw [e]; simp
theorem le_nodeN {t : TypeId} {L : List Nd} {n : Nd} {o : Nat} {u x : AV} {p : Prop} (ho : o = L.length * 4 + 3) (hx : x = ownI t n.l) : (pureL ((L.flatMap (ndO t) ++ [.int .i64 n.op, .int .i64 n.a, .int .i64 n.b, u]).set o x) = true ∧ (L ++ [n]).flatMap (ndO t) = (L.flatMap (ndO t) ++ [.int .i64 n.op, .int .i64 n.a, .int .i64 n.b, u]).set o x) ∨ p := by
  subst ho; subst hx
  refine le_cells ?_ (pureL_ond _ _)
  have e : (L.flatMap (ndO t)).length = L.length * 4 := flat_len (ndO_length t) L
  rw [List.set_append_right _ _ (by omega), e, Nat.add_sub_cancel_left, List.flatMap_append]
  rfl
theorem get_nodeN {t : TypeId} {L : List Nd} {o : Nat} {a b c u : AV} (ho : o = L.length * 4 + 3) : (L.flatMap (ndO t) ++ [a, b, c, u])[o]? = some u := by
  subst ho
  have e : (L.flatMap (ndO t)).length = L.length * 4 := flat_len (ndO_length t) L
  rw [List.getElem?_append_right (by omega), e, Nat.add_sub_cancel_left]; rfl
end Go.Am
namespace Go.Proofs.YtjmdhfjemaoebaaGreat
set_option maxRecDepth 20000
open Go.RowKit Go.Am
set_option linter.unusedSimpArgs false
theorem append_nd {env : List AV} {rows : List Row} {ctr low τ ver n τ' ver' : Nat} {A : List AV} {i j l : Int} {u : AV} {k : AV → St → Prop} (hr : rows[τ]? = some ⟨ver, 75, 4, A⟩) (hn : A.length = n * 4) (hr' : rows[τ']? = some ⟨ver', 75, 4, [.int .i64 i, .int .i64 j, .int .i64 l, u]⟩) (hu : u.isOwn = false) (hle : n ≤ 1000) (hlow : low ≤ τ)
    (hk : k (.ref τ ctr 0 (n + 1)) ⟨env, rows.set τ ⟨ctr, 75, 4, A ++ [.int .i64 i, .int .i64 j, .int .i64 l, u]⟩, ctr + 1, low⟩) : aAppend Tryz.prog ⟨env, rows, ctr, low⟩ 27 (.ref τ ver 0 n) (.ref τ' ver' 0 1) k := by
  have hb : (bsz Tryz.prog 75) = some 48 := by kernel_rfl
  have hz : zeroCellsA Tryz.prog 75 = some [.int .i64 0, .int .i64 0, .int .i64 0, .nil] := by kernel_rfl
  have hty : Tryz.prog.underlying 27 = some (.slice 75) := by kernel_rfl
  have hs : ∀ K : Nat → Prop, K 4 → aSz Tryz.prog 75 K := fun K h => by
    have : tsz Tryz.prog 75 = some 4 := by kernel_rfl
    unfold aSz; rw [this]; exact h
  unfold aAppend
  rw [hty]
  simp only
  rw [hz]
  simp only
  refine hs _ ?_
  unfold aElems aRow
  simp only [hr']
  rw [if_pos trivial, if_pos (.inr trivial)]
  have eI : ∀ n, (AV.int .i64 n).isOwn = false := fun _ => rfl
  refine ⟨⟨by simp, by simp [hu, eI]⟩, ⟨rfl, by rw [hb]; rfl, by rw [hb]; decide⟩, ?_⟩
  simp only [hr]
  rw [if_pos trivial, if_pos (by simp)]
  refine ⟨by omega, fun h => by omega, fun _ h => by exfalso; omega, fun _ _ => ⟨hlow, by rw [hb]; simp only [Option.getD_some]; omega, ?_⟩⟩
  have e : A.take (n * 4) = A := List.take_of_length_le (by omega)
  rw [e]
  simpa using hk
attribute [local irreducible] aPlan aGet aIf aLoop aCall RetB NextB CallB CallG aCut aSet aAppend
set_option maxHeartbeats 4000000 in
theorem copyLists_sound : Sound Tryz.prog 85 (fnR (ι := Nat × List (List Int)) 38 1 (fun | (c, xss) => [.sl c xss.length (xss.map (slI c))]) (fun | (_, xss) => xss.length ≤ 1000 ∧ ∀ k, k < xss.length → (xss.getD k []).length ≤ 1048576) (fun | (_, xss) => xss.length) (fun | (_, xss) => xss.map (ownI 3))) := by
  refine sound_of Tryz.func85 rfl (enters_of Tryz.func85 (by kernel_rfl) (by kernel_rfl)) ?_
  rintro ⟨c, xss⟩ hpre
  obtain ⟨hl, hk3⟩ : xss.length ≤ 1000 ∧ ∀ k, k < xss.length → (xss.getD k []).length ≤ 1048576 := hpre
  have hmax : maxLen = 9223372036854775807 := rfl
  conv => whnf
  repeat' (first
    | ((first | refine fun (_ : _ ≤ maxLen) => ?_ | refine append_same ?_ | refine And.intro (And.intro (by kernel_rfl) (And.intro rfl (Nat.le_of_ble_eq_true rfl))) ?_); conv => whnf))
  refine loop_ut (ι := Nat) [false, false, false, true, false, false, false, true, true, true, false, false, false, false, false, false, false, false, false, false] (fun k => [(3, .ref 1 2 0 k), (9, .int .i64 k)]) (fun k => [(1, (xss.take k).map (ownI 3))]) (fun k => k ≤ xss.length) (fun k => xss.length - k) (0) (Nat.zero_le _) ?_ ?_
  · conv => whnf
    refine St.le.to ?_
    conv => whnf
    repeat' (first
      | exact trivial | exact rfl
      | exact Or.inl (And.intro rfl rfl) | exact pureL_ii _ _
      | refine And.intro ?_ ?_ | exact Nat.le_of_ble_eq_true rfl)
  · rintro k hk
    have hk : k ≤ xss.length := hk
    have htl : (xss.take k).length = k := by rw [List.length_take]; omega
    by_cases hlt : k < xss.length
    · have h3 := hk3 k hlt
      conv => whnf
      repeat' (first
        | ((first | refine And.intro (by omega) ?_ | refine callG_t ?_ | refine copyNums_call (by omega) ?_ | refine append_same ?_ | refine get_ii_n (by omega) ?_ | refine And.intro (pureL_ints _ _) ?_ | refine And.intro (And.intro (by kernel_rfl) (And.intro rfl (Nat.le_of_ble_eq_true rfl))) ?_); conv => whnf) | (refine aIf_dec (fun _ => ?_) (fun _ => ?_) <;> conv => whnf))
      all_goals (first | (exfalso; omega) | skip)
      refine append_ll rfl (by rw [List.length_map]; exact htl.symm) rfl rfl (by omega) (Nat.zero_le _) ?_
      conv => whnf
      repeat' (first
        | (refine append_same ?_; conv => whnf))
      refine next_ut (k + 1) (show xss.length - (k + 1) < xss.length - k by omega) (by exact (by omega : k + 1 ≤ xss.length)) ?_
      conv => whnf
      refine to_close 1 k 2 _ _ 1 3 _ _ rfl ((List.getElem?_append_right (by rw [List.length_map]; omega)).trans (by rw [List.length_map, htl, Nat.sub_self]; rfl)) rfl (by decide) (Nat.zero_le _) (by decide) (by simp) ?_
      refine St.le.to ?_
      conv => whnf
      repeat' (first | exact le_listI hlt | refine And.intro ?_ ?_)
      repeat' (first
        | exact trivial | exact rfl
        | exact Or.inl (And.intro rfl rfl) | exact pureL_ii _ _
        | exact Nat.le_of_ble_eq_true rfl | exact int_eq (by rw [IntWalk.i64_in _ (by omega)] <;> omega))
    · have he : k = xss.length := by omega
      conv => whnf
      repeat' (first
        | ((first | refine And.intro (by omega) ?_ | refine callG_t ?_ | refine copyNums_call (by omega) ?_ | refine append_same ?_ | refine get_ii_n (by omega) ?_); conv => whnf) | (refine aIf_dec (fun _ => ?_) (fun _ => ?_) <;> conv => whnf))
      all_goals (first | (exfalso; omega) | skip)
      have et : xss.take k = xss := by rw [he, List.take_length]
      rw [et]
      exact retR rfl (protL_oi _ _) he rfl
theorem copyLists_call {c : Nat} {xss : List (List Int)} {env : List AV} {rows : List Row} {ctr low : Nat} {k : AV → St → Prop} (hpre : xss.length ≤ 1000 ∧ ∀ k, k < xss.length → (xss.getD k []).length ≤ 1048576) (h : k (.ref rows.length ctr 0 xss.length) ⟨env, rows ++ [⟨ctr, 38, 1, xss.map (ownI 3)⟩], ctr + 1, low⟩) :
    CallB Tryz.prog 85 ⟨env, rows, ctr, low⟩ [.sl c xss.length (xss.map (slI c))] k := callR_in copyLists_sound (c, xss) hpre (protL_oi _ _) h
def cpP (xss : List (List Int)) (ns : List Nd) : Prop := (xss.length ≤ 1000 ∧ ∀ k, k < xss.length → (xss.getD k []).length ≤ 1048576) ∧ ns.length ≤ 1000 ∧ ∀ k, k < ns.length → (ns.getD k default).l.length ≤ 1048576
def sCopyE : CSpec := fnR2 (ι := Nat × List (List Int) × List Nd) 38 1 75 4 (fun | (c, xss, ns) => [.agg [.sl c xss.length (xss.map (slI c)), .sl c ns.length (ns.flatMap (ndC c))]]) (fun | (_, xss, ns) => cpP xss ns) (fun | (_, xss, _) => xss.length) (fun | (_, _, ns) => ns.length) (fun | (_, xss, _) => xss.map (ownI 3)) (fun | (_, _, ns) => ns.flatMap (ndO 3))
set_option maxHeartbeats 8000000 in
theorem copyExpr_sound : Sound Tryz.prog 42 sCopyE := by
  refine sound_of Tryz.func42 rfl (enters_of Tryz.func42 (by kernel_rfl) (by kernel_rfl)) ?_
  rintro ⟨c, xss, ns⟩ hpre
  obtain ⟨hxs, hl, hk3⟩ : cpP xss ns := hpre
  have hmax : maxLen = 9223372036854775807 := rfl
  conv => whnf
  repeat' (first
    | ((first | refine plan_in (id := 5) [0, 1, 2, 3, 4, 5, 6, 7] (by kernel_rfl) (by kernel_rfl) ?_ | refine fun (_ : _ ≤ maxLen) => ?_ | refine aGet_in rfl ?_ | refine And.intro rfl (And.intro (List.cons_ne_nil _ _) ?_) | refine And.intro (Nat.le_of_ble_eq_true rfl) ?_ | refine callG_t ?_ | refine append_same ?_ | refine And.intro (pureL_ii _ _) ?_ | refine copyLists_call (by assumption) ?_ | refine set_force ?_ | refine And.intro (by kernel_rfl) ?_); conv => whnf))
  refine loop_ut (ι := Nat) [false, false, true, true, false, false, false, false, false, false, false, true, true, true, false, false, false, false, false, false, false, false, false, false, false, false] (fun k => [(13, .int .i64 k)]) (fun k => [(8, [.ref 4 5 0 xss.length, .ref 5 6 0 k]), (5, (ns.take k).flatMap (ndO 3))]) (fun k => k ≤ ns.length) (fun k => ns.length - k) (0) (Nat.zero_le _) ?_ ?_
  · conv => whnf
    refine St.le.to ?_
    conv => whnf
    repeat' (first
      | exact trivial | exact rfl
      | exact Or.inl (And.intro rfl rfl) | exact pureL_ii _ _
      | exact pureL_nd _ _ | exact Or.inl (And.intro (pureL_oi _ _) rfl)
      | refine Or.inr ?_ | refine And.intro ?_ ?_
      | exact Nat.le_of_ble_eq_true rfl)
  · rintro k hk
    have hk : k ≤ ns.length := hk
    have htl : (ns.take k).length = k := by rw [List.length_take]; omega
    by_cases hlt : k < ns.length
    · have h3 := hk3 k hlt
      conv => whnf
      repeat' (first
        | ((first | refine plan_in (id := 5) [0, 1, 2, 3, 4, 5, 6, 7] (by kernel_rfl) (by kernel_rfl) ?_ | refine aGet_in rfl ?_ | refine And.intro (by omega) ?_ | refine load_same ?_ | refine And.intro (Nat.le_of_ble_eq_true rfl) ?_ | refine append_same ?_ | refine part_nd_n (by omega) ?_ | refine copyNode_call (by first | assumption | omega) ?_ | refine takeN_in ?_ | refine And.intro (pureL_ints _ _) ?_ | refine set_force ?_ | refine And.intro (And.intro (by kernel_rfl) (And.intro rfl (Nat.le_of_ble_eq_true rfl))) ?_ | refine And.intro (by kernel_rfl) ?_); conv => whnf) | (refine aIf_dec (fun _ => ?_) (fun _ => ?_) <;> conv => whnf))
      all_goals (first | (exfalso; omega) | skip)
      refine append_nd rfl (by rw [flat_len (ndO_length _), htl]) rfl rfl (by omega) (Nat.zero_le _) ?_
      conv => whnf
      repeat' (first
        | ((first | refine plan_in (id := 5) [0, 1, 2, 3, 4, 5, 6, 7] (by kernel_rfl) (by kernel_rfl) ?_ | refine And.intro (Nat.le_of_ble_eq_true rfl) ?_ | refine append_same ?_ | refine set_force ?_ | refine And.intro (by kernel_rfl) ?_); conv => whnf))
      refine next_ut (k + 1) (show ns.length - (k + 1) < ns.length - k by omega) (by exact (by omega : k + 1 ≤ ns.length)) ?_
      conv => whnf
      refine to_close 5 (k * 4 + 3) 11 _ _ 1 3 _ _ rfl (get_nodeN (by rw [htl])) rfl (by decide) (Nat.zero_le _) (by decide) (by simp) ?_
      refine St.le.to ?_
      rw [takeN_snoc hlt]
      conv => whnf
      repeat' (first | exact le_nodeN (n := ns.getD k default) (by rw [htl]) rfl | refine And.intro ?_ ?_)
      repeat' (first
        | exact trivial | exact rfl
        | exact Or.inl (And.intro rfl rfl) | exact pureL_ii _ _
        | exact pureL_nd _ _ | exact Or.inl (And.intro (pureL_oi _ _) rfl)
        | refine Or.inr ?_ | refine And.intro ?_ ?_
        | exact Nat.le_of_ble_eq_true rfl | exact int_eq (by rw [IntWalk.i64_in _ (by omega)] <;> omega))
    · have he : k = ns.length := by omega
      conv => whnf
      repeat' (first
        | ((first | refine plan_in (id := 5) [0, 1, 2, 3, 4, 5, 6, 7] (by kernel_rfl) (by kernel_rfl) ?_ | refine aGet_in rfl ?_ | refine And.intro (by omega) ?_ | refine load_same ?_ | refine And.intro (Nat.le_of_ble_eq_true rfl) ?_ | refine append_same ?_ | refine part_nd_n (by omega) ?_ | refine copyNode_call (by first | assumption | omega) ?_ | refine takeN_in ?_ | refine set_force ?_ | refine And.intro (by kernel_rfl) ?_); conv => whnf) | (refine aIf_dec (fun _ => ?_) (fun _ => ?_) <;> conv => whnf))
      all_goals (first | (exfalso; omega) | skip)
      have et : ns.take k = ns := by rw [he, List.take_length]
      rw [et]
      exact retE2 (by decide) rfl rfl rfl rfl rfl he
theorem copyExpr_call {c : Nat} {xss : List (List Int)} {ns : List Nd} {env : List AV} {rows : List Row} {ctr low : Nat} {k : AV → St → Prop} (hpre : cpP xss ns) (h : k (.agg [.ref rows.length ctr 0 xss.length, .ref (rows.length + 1) ctr 0 ns.length]) ⟨env, rows ++ [⟨ctr, 38, 1, xss.map (ownI 3)⟩, ⟨ctr, 75, 4, ns.flatMap (ndO 3)⟩], ctr + 1, low⟩) :
    CallB Tryz.prog 42 ⟨env, rows, ctr, low⟩ [.agg [.sl c xss.length (xss.map (slI c)), .sl c ns.length (ns.flatMap (ndC c))]] k := callR2_in copyExpr_sound (c, xss, ns) hpre (protL_oi _ _) (protL_ond _ _) h
end Go.Proofs.YtjmdhfjemaoebaaGreat
