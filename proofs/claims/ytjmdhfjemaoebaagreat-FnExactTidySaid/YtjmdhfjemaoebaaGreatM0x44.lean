import Derived.Test.YtjmdhfjemaoebaaGreatM0x41
import Derived.Test.YtjmdhfjemaoebaaGreatM0x35
import Derived.Test.YtjmdhfjemaoebaaGreatM0x42
import Derived.Test.YtjmdhfjemaoebaaGreatM0x43
import Derived.Test.YtjmdhfjemaoebaaGreatM0x39
import Derived.Test.YtjmdhfjemaoebaaGreatM0x40
namespace Go.Am
open Go.RowKit
theorem mapM_app {g : AV → Option AV} : ∀ {us us' vs vs' : List AV}, us.mapM g = some us' → vs.mapM g = some vs' → (us ++ vs).mapM g = some (us' ++ vs')
  | [], us', vs, vs', h, h' => by
    have : us' = [] := by simpa using h.symm
    subst this; exact h'
  | u :: us, us', vs, vs', h, h' => by
    simp only [List.mapM_cons, Option.pure_def, Option.bind_eq_bind, Option.bind_eq_some_iff, Option.some.injEq] at h
    obtain ⟨v, h1, ws, h2, rfl⟩ := h
    have := mapM_app h2 h'
    simp [List.mapM_cons, h1, this]
theorem tree_nodes {s : St} {t : TypeId} {f : Nat} (L : List Nd) : (L.flatMap (ndO t)).mapM (s.tree [] (f + 2)) = some (L.flatMap (ndC 0)) := mapM_imp (fun a b e => tr_tree (f + 2) a b e) (trL_flat (trL_ndO f t) L)
theorem tree_mix {s : St} {t : TypeId} {f q : Nat} {ns : List Nd} {a b c : Int} {u u' : AV} (hu : s.tree [] (f + 2) u = some u') :
    ((ns.take q).flatMap (ndO t) ++ ([.int .i64 a, .int .i64 b, .int .i64 c, u] ++ (ns.drop (q + 1)).flatMap (ndO t))).mapM (s.tree [] (f + 2)) = some ((ns.take q).flatMap (ndC 0) ++ ([.int .i64 a, .int .i64 b, .int .i64 c, u'] ++ (ns.drop (q + 1)).flatMap (ndC 0))) :=
  mapM_app (tree_nodes _) (mapM_app (mapM_next rfl (mapM_next rfl (mapM_next rfl (mapM_next hu rfl)))) (tree_nodes _))
theorem tree_row {s : St} {t : TypeId} {zs : List Int} {τ v f : Nat} (hr : s.rows[τ]? = some ⟨v, t, 1, zs.map (.int .i64)⟩) : s.tree [] (f + 2) (.ref τ v 0 zs.length) = some (slI 0 zs) := by
  refine tree_ref hr ⟨rfl, by simp, by simp⟩ ?_
  rw [List.drop_zero, Nat.mul_one, List.take_of_length_le (by simp)]
  exact scalL_tree (scalL_ints _ _)
def mixM (ns : List Nd) (q d : Nat) (n : Nd) : MN := (ns.take q).map (fun x => (0, x)) ++ ((d, n) :: (ns.drop (q + 1)).map (fun x => (0, x)))
theorem mixM_c (ns : List Nd) (q d : Nat) (n : Nd) : (mixM ns q d n).flatMap mnC = (ns.take q).flatMap (ndC 0) ++ ([.int .i64 n.op, .int .i64 n.a, .int .i64 n.b, slI d n.l] ++ (ns.drop (q + 1)).flatMap (ndC 0)) := by
  unfold mixM
  rw [List.flatMap_append, List.flatMap_cons, mn_all, mn_all]; rfl
theorem mixM_s {ns : List Nd} {q d : Nat} {n : Nd} (h : q < ns.length) : (mixM ns q d n).map Prod.snd = ns.set q n := by
  unfold mixM
  rw [List.map_append, List.map_cons, mn_snd, mn_snd, List.set_eq_take_append_cons_drop, if_pos h]
theorem mixM_l {ns : List Nd} {q d : Nat} {n : Nd} (h : q < ns.length) : (mixM ns q d n).length = ns.length := by
  have := congrArg List.length (mixM_s (d := d) (n := n) h)
  simpa using this
theorem callArgs_mix {env : List AV} {rows : List Row} {ctr low τ1 v1 τ2 v2 n1 n2 q d : Nat} {t tt tn : TypeId} {xss : List (List Int)} {ns : List Nd} {n : Nd} {u : AV} (h1 : rows[τ1]? = some ⟨v1, tt, 1, xss.map (ownI t)⟩) (h2 : rows[τ2]? = some ⟨v2, tn, 4, (ns.take q).flatMap (ndO t) ++ ([.int .i64 n.op, .int .i64 n.a, .int .i64 n.b, u] ++ (ns.drop (q + 1)).flatMap (ndO t))⟩)
    (hq : q < ns.length) (hu : (⟨env, rows, ctr, low⟩ : St).tree [] 2 u = some (slI d n.l)) (e1 : n1 = xss.length) (e2 : n2 = ns.length) :
    callArgs ⟨env, rows, ctr, low⟩ [] [] [.agg [.ref τ1 v1 0 n1, .ref τ2 v2 0 n2]] = some [.agg [.sl 0 xss.length (xss.map (slI 0)), .sl 0 (mixM ns q d n).length ((mixM ns q d n).flatMap mnC)]] := by
  subst e1; subst e2
  have hl : ((ns.take q).flatMap (ndO t) ++ ([.int .i64 n.op, .int .i64 n.a, .int .i64 n.b, u] ++ (ns.drop (q + 1)).flatMap (ndO t))).length = ns.length * 4 := by
    rw [List.length_append, List.length_append, flat_len (ndO_length t), flat_len (ndO_length t), List.length_take, List.length_drop]
    simp only [List.length_cons, List.length_nil]
    omega
  rw [mixM_c, mixM_l hq]
  refine callArgs_next (tree_agg (mapM_next (tree_ref h1 ⟨rfl, by simp, by simp⟩ ?_) (mapM_next (tree_ref h2 ⟨rfl, by simp only [hl]; omega, by simp⟩ ?_) rfl))) rfl
  · rw [List.drop_zero, Nat.mul_one, List.take_of_length_le (by simp)]
    exact mapM_imp (fun a b e => tr_tree 2 a b e) (trL_map (tr_ownI 0 t) xss)
  · simp only
    rw [List.drop_zero, List.take_of_length_le (by rw [hl]; exact Nat.le_refl _)]
    exact tree_mix (f := 0) hu
end Go.Am
namespace Go.Proofs.YtjmdhfjemaoebaaGreat
set_option maxRecDepth 20000
open Go.RowKit Go.Am
set_option linter.unusedSimpArgs false
attribute [local irreducible] aPlan aGet aIf aLoop aCall RetB NextB CallB CallG aCut aSet aAppend
theorem cX_ch {ns : List Nd} {ss : List (List Int)} {ch : Int} {q : Nat} {n : Nd} (h : cX ns ss ch q = some n) : 1 ≤ ch ∧ ch ≤ 8 := by
  refine Classical.byContradiction fun hc => ?_
  rw [cX_n (cX_pc h) hc] at h; cases h
theorem ExI.cX_l3 {xss ss : List (List Int)} {ns : List Nd} (hX : ExI xss ns ss) {q : Nat} (hq : q < ns.length) {ch : Int} {n : Nd} (h : cX ns ss ch q = some n) : n.l.length ≤ 3 := by
  have hz := cX_pc h
  have hl := hX.l3 hq
  rcases (show ch = 1 ∨ ch = 2 ∨ ch = 3 ∨ ch = 4 ∨ ch = 5 ∨ ch = 6 ∨ ch = 7 ∨ ch = 8 by have := cX_ch h; omega) with e | e | e | e | e | e | e | e
  all_goals subst e
  · rw [cX_1 hz] at h
    obtain ⟨-, rfl⟩ := some_n (show (if _ then none else some _ : Option Nd) = some n from h)
    exact hl
  · rw [cX_2 hz] at h
    obtain ⟨-, rfl⟩ := some_of (show (if _ then some _ else none : Option Nd) = some n from h)
    show (turned _ _).length ≤ 3
    rw [turned_length]; exact hl
  · rw [cX_3 hz] at h
    obtain ⟨-, rfl⟩ := some_of (show (if _ then some _ else none : Option Nd) = some n from h)
    exact hl
  · rw [cX_4 hz] at h
    obtain ⟨-, rfl⟩ := some_of (show (if _ then some _ else none : Option Nd) = some n from h)
    exact ok_len3 (hX.shp hq)
  · rw [cX_5 hz] at h
    unfold c5 at h
    split at h
    · cases h; exact Nat.zero_le _
    · split at h
      · cases h; exact Nat.zero_le _
      · obtain ⟨-, rfl⟩ := some_of h
        exact Nat.zero_le _
  · rw [cX_6 hz] at h
    obtain ⟨-, rfl⟩ := some_of (show (if _ then some _ else none : Option Nd) = some n from h)
    exact Nat.le_refl _
  · rw [cX_7 hz] at h
    unfold c7 at h
    split at h
    · split at h
      · cases h; exact Nat.le_refl _
      · obtain ⟨-, rfl⟩ := some_of h
        exact Nat.le_refl _
    · cases h
  · rw [cX_8 hz] at h
    obtain ⟨-, rfl⟩ := some_of (show (if _ then some _ else none : Option Nd) = some n from h)
    exact Nat.zero_le _
theorem getD_set_l {ns : List Nd} {q : Nat} {n : Nd} (hq : q < ns.length) {b : Nat} (hn : n.l.length ≤ b) (h : ∀ k, k < ns.length → (ns.getD k default).l.length ≤ b) : ∀ k, k < (ns.set q n).length → ((ns.set q n).getD k default).l.length ≤ b := fun k hk => by
  rw [List.length_set] at hk
  rw [getD_setG hq]
  split
  · exact hn
  · exact h k hk
theorem dTo_l {ns : List Nd} {g b : Nat} (h : ∀ k, k < ns.length → (ns.getD k default).l.length ≤ b) : ∀ m, m ≤ ns.length → ∀ k, k < (dTo ns g m).length → ((dTo ns g m).getD k default).l.length ≤ b
  | 0, _, k, hk => absurd hk (Nat.not_lt_zero _)
  | m + 1, hm, k, hk => by
    by_cases e : m = g
    · rw [dTo_g e] at hk ⊢
      exact dTo_l h m (by omega) k hk
    · rw [dTo_n e] at hk ⊢
      rw [List.length_append, List.length_singleton] at hk
      by_cases hk' : k < (dTo ns g m).length
      · rw [getD_app1 hk']; exact dTo_l h m (by omega) k hk'
      · rw [getD_app2 (by omega)]; exact h m (by omega)
theorem ExI.cpS {xss ss : List (List Int)} {ns : List Nd} (hX : ExI xss ns ss) {q : Nat} (hq : q < ns.length) {ch : Int} {n : Nd} (h : cX ns ss ch q = some n) : Go.Proofs.YtjmdhfjemaoebaaGreat.cpP xss (ns.set q n) := by
  obtain ⟨h1, h2, h3⟩ := hX.cpP
  exact ⟨h1, by rw [List.length_set]; exact h2, getD_set_l hq (by have := hX.cX_l3 hq h; omega) h3⟩
theorem ExI.cpD {xss ss : List (List Int)} {ns : List Nd} (hX : ExI xss ns ss) (g : Nat) : Go.Proofs.YtjmdhfjemaoebaaGreat.cpP xss (dropN ns g) := by
  obtain ⟨h1, h2, h3⟩ := hX.cpP
  exact ⟨h1, by have := dTo_le ns g ns.length; unfold dropN; omega, dTo_l h3 _ (Nat.le_refl _)⟩
theorem l6Copy_mix {τ1 v1 τ2 v2 n1 n2 q d : Nat} {xss : List (List Int)} {ns : List Nd} {n : Nd} {u : AV} {env : List AV} {rows : List Row} {ctr low : Nat} {k : AV → St → Prop} (h1 : rows[τ1]? = some ⟨v1, 38, 1, xss.map (ownI 3)⟩) (h2 : rows[τ2]? = some ⟨v2, 75, 4, (ns.take q).flatMap (ndO 3) ++ ([.int .i64 n.op, .int .i64 n.a, .int .i64 n.b, u] ++ (ns.drop (q + 1)).flatMap (ndO 3))⟩)
    (hq : q < ns.length) (hu : (⟨env, rows, ctr, low⟩ : St).tree [] 2 u = some (slI d n.l)) (e1 : n1 = xss.length) (e2 : n2 = ns.length) (hcp : cpP xss (ns.set q n))
    (h : k (.agg [.ref rows.length ctr 0 xss.length, .ref (rows.length + 1) ctr 0 (ns.set q n).length]) ⟨env, rows ++ [⟨ctr, 38, 1, xss.map (ownI 3)⟩, ⟨ctr, 75, 4, (ns.set q n).flatMap (ndO 3)⟩], ctr + 1, low⟩) :
    CallG Tryz.prog 36 ⟨env, rows, ctr, low⟩ [.agg [.ref τ1 v1 0 n1, .ref τ2 v2 0 n2]] k := by
  have e : mNs (mixM ns q d n) = ns.set q n := mixM_s hq
  refine callG_tree (callArgs_mix h1 h2 hq hu e1 e2) (l6Copy_call (by rw [e]; exact hcp) ?_)
  rw [e]; exact h
theorem l6Copy_mixR {τ1 v1 τ2 v2 τ3 v3 n1 n2 m q : Nat} {xss : List (List Int)} {ns : List Nd} {n : Nd} {env : List AV} {rows : List Row} {ctr low : Nat} {k : AV → St → Prop} (h1 : rows[τ1]? = some ⟨v1, 38, 1, xss.map (ownI 3)⟩) (h2 : rows[τ2]? = some ⟨v2, 75, 4, (ns.take q).flatMap (ndO 3) ++ ([.int .i64 n.op, .int .i64 n.a, .int .i64 n.b, .ref τ3 v3 0 m] ++ (ns.drop (q + 1)).flatMap (ndO 3))⟩)
    (h3 : rows[τ3]? = some ⟨v3, 3, 1, n.l.map (.int .i64)⟩) (hm : m = n.l.length) (hq : q < ns.length) (e1 : n1 = xss.length) (e2 : n2 = ns.length) (hcp : cpP xss (ns.set q n))
    (h : k (.agg [.ref rows.length ctr 0 xss.length, .ref (rows.length + 1) ctr 0 (ns.set q n).length]) ⟨env, rows ++ [⟨ctr, 38, 1, xss.map (ownI 3)⟩, ⟨ctr, 75, 4, (ns.set q n).flatMap (ndO 3)⟩], ctr + 1, low⟩) :
    CallG Tryz.prog 36 ⟨env, rows, ctr, low⟩ [.agg [.ref τ1 v1 0 n1, .ref τ2 v2 0 n2]] k := by
  subst hm
  exact l6Copy_mix (d := 0) h1 h2 hq (tree_row (f := 0) h3) e1 e2 hcp h
theorem sChangeOk_callV {c : Nat} {ch p : Int} {xss : List (List Int)} {ns : List Nd} {b : Bool} {env : List AV} {rows : List Row} {ctr low : Nat} {k : AV → St → Prop} (hE : eP ns) (hb : okV xss ns ch p = b) (h : k (.bool b) ⟨env, rows, ctr + 1, low⟩) :
    CallB Tryz.prog 80 ⟨env, rows, ctr, low⟩ [.agg [.sl c xss.length (xss.map (slI c)), .sl c ns.length (ns.flatMap (ndC c))], .int .i64 ch, .int .i64 p] k := by
  subst hb; exact sChangeOk_call hE h
theorem l6Below_callV {c g : Nat} {xss : List (List Int)} {ns : List Nd} {b : Bool} {env : List AV} {rows : List Row} {ctr low : Nat} {k : AV → St → Prop} (hM : (shM xss ns).2 = true) (hg : g < ns.length) (hb : blB ns g = b) (h : k (.bool b) ⟨env, rows, ctr + 1, low⟩) :
    CallB Tryz.prog 79 ⟨env, rows, ctr, low⟩ [.agg [.sl c xss.length (xss.map (slI c)), .sl c ns.length (ns.flatMap (ndC c))], .int .i64 g] k := by
  subst hb; exact l6Below_call hM hg h
end Go.Proofs.YtjmdhfjemaoebaaGreat
namespace Go.Proofs.YtjmdhfjemaoebaaGreat
set_option maxRecDepth 20000
open Go.RowKit Go.Am
set_option linter.unusedSimpArgs false
theorem wf_of64 {n : Int} (h : -9223372036854775808 ≤ n ∧ n ≤ 9223372036854775807) : (Lit.int .i64 n).wf = true := by
  have h1 : IntKind.i64.min = -9223372036854775808 := by decide
  have h2 : IntKind.i64.max = 9223372036854775807 := by decide
  show (decide (IntKind.i64.min ≤ n) && decide (n ≤ IntKind.i64.max)) = true
  rw [h1, h2, Bool.and_eq_true, decide_eq_true_iff, decide_eq_true_iff]
  exact h
theorem wf_wr (n : Int) : (Lit.int .i64 (IntKind.i64.wrap n)).wf = true := wf_of64 (by rw [IntKind.wrap_i64]; omega)
theorem wfL_3 {a b c : Int} (ha : (Lit.int .i64 a).wf = true) (hb : (Lit.int .i64 b).wf = true) (hc : (Lit.int .i64 c).wf = true) : wfL [a, b, c] := getD_wf fun z hz => by
  rcases List.mem_cons.1 hz with rfl | hz
  · exact ha
  · rcases List.mem_cons.1 hz with rfl | hz
    · exact hb
    · rcases List.mem_cons.1 hz with rfl | hz
      · exact hc
      · cases hz
theorem wfL_nil : wfL [] := getD_wf fun z hz => by cases hz
theorem wfL_turned {xs ax : List Int} (h : wfL xs) : wfL (turned xs ax) := getD_wf fun z hz => by
  unfold turned at hz
  obtain ⟨a, _, rfl⟩ := List.mem_map.1 hz
  exact h _
theorem wfL_shape {xs : List Int} (h : shapeOk xs = true) : wfL xs := fun j => by
  by_cases hj : j < xs.length
  · have := ok_size h hj
    exact wf_of64 (by omega)
  · have e : xs.getD j 0 = 0 := by simp [List.getD, List.getElem?_eq_none (show xs.length ≤ j by omega)]
    rw [e]; rfl
theorem ExI.cX_wf {xss ss : List (List Int)} {ns : List Nd} (hX : ExI xss ns ss) (hE : eP ns) {q : Nat} (hq : q < ns.length) {ch : Int} {n : Nd} (h : cX ns ss ch q = some n) : wfL n.l := by
  have hz := cX_pc h
  have hw := (hE q hq).2
  have hop := hX.op hq
  have hpc := pcN_cases (ns.getD q default).op
  have h2 : 2 ≤ (ns.getD q default).op := by omega
  have ha := hX.a hq h2
  have hwa : wfL (nA ns (ns.getD q default)).l := (hE (ns.getD q default).a.toNat (by omega)).2
  rcases (show ch = 1 ∨ ch = 2 ∨ ch = 3 ∨ ch = 4 ∨ ch = 5 ∨ ch = 6 ∨ ch = 7 ∨ ch = 8 by have := cX_ch h; omega) with e | e | e | e | e | e | e | e
  all_goals subst e
  · rw [cX_1 hz] at h
    obtain ⟨-, rfl⟩ := some_n (show (if _ then none else some _ : Option Nd) = some n from h)
    exact hw
  · rw [cX_2 hz] at h
    obtain ⟨-, rfl⟩ := some_of (show (if _ then some _ else none : Option Nd) = some n from h)
    exact wfL_turned hwa
  · rw [cX_3 hz] at h
    obtain ⟨-, rfl⟩ := some_of (show (if _ then some _ else none : Option Nd) = some n from h)
    exact hw
  · rw [cX_4 hz] at h
    obtain ⟨-, rfl⟩ := some_of (show (if _ then some _ else none : Option Nd) = some n from h)
    exact wfL_shape (hX.shp hq)
  · rw [cX_5 hz] at h
    unfold c5 at h
    split at h
    · cases h; exact wfL_nil
    · split at h
      · cases h; exact wfL_nil
      · obtain ⟨-, rfl⟩ := some_of h
        exact wfL_nil
  · rw [cX_6 hz] at h
    obtain ⟨-, rfl⟩ := some_of (show (if _ then some _ else none : Option Nd) = some n from h)
    exact wfL_3 (hw _) (wf_wr _) (hw _)
  · rw [cX_7 hz] at h
    unfold c7 at h
    split at h
    · split at h
      · cases h; exact wfL_3 (hw _) (wf_wr _) (hw _)
      · obtain ⟨-, rfl⟩ := some_of h
        exact wfL_3 (hw _) (hw _) (hw _)
    · cases h
  · rw [cX_8 hz] at h
    obtain ⟨-, rfl⟩ := some_of (show (if _ then some _ else none : Option Nd) = some n from h)
    exact wfL_nil
def swW (x : Nd) : Nat := if (x.op = 2 ∨ x.op = 4 ∨ x.op = 5) ∧ x.b < x.a then 1 else 0
def ndW (x : Nd) : Nat := 13 * (x.a.toNat + x.b.toNat) + swW x
def mu (ns : List Nd) : Nat := 13 * ns.length + (ns.map ndW).sum
theorem swW_le (x : Nd) : swW x ≤ 1 := by unfold swW; split <;> omega
theorem sum_set {f : Nd → Nat} {n : Nd} : ∀ {ns : List Nd} {p : Nat}, p < ns.length → ((ns.set p n).map f).sum + f (ns.getD p default) = (ns.map f).sum + f n
  | x :: ns, 0, _ => by simp; omega
  | x :: ns, p + 1, h => by
    have := sum_set (f := f) (n := n) (ns := ns) (p := p) (by simpa using h)
    simp only [List.set_cons_succ, List.map_cons, List.sum_cons]
    have e : (x :: ns).getD (p + 1) default = ns.getD p default := by simp
    rw [e]; omega
theorem mu_set {ns : List Nd} {p : Nat} {n : Nd} (h : p < ns.length) (hn : ndW n < ndW (ns.getD p default)) : mu (ns.set p n) < mu ns := by
  have := sum_set (f := ndW) (n := n) h
  unfold mu
  rw [List.length_set]; omega
theorem ndW_lt {x n : Nd} (h : n.a.toNat + n.b.toNat < x.a.toNat + x.b.toNat) : ndW n < ndW x := by
  have := swW_le n
  unfold ndW; omega
theorem ExI.cX_lt {xss ss : List (List Int)} {ns : List Nd} (hX : ExI xss ns ss) {q : Nat} (hq : q < ns.length) {ch : Int} {n : Nd} (h : cX ns ss ch q = some n) : ndW n < ndW (ns.getD q default) := by
  have hz := cX_pc h
  have hop := hX.op hq
  have hpc := pcN_cases (ns.getD q default).op
  have h2 : 2 ≤ (ns.getD q default).op := by omega
  obtain ⟨ha, hb⟩ := hX.ab hq h2
  have hqa : (ns.getD q default).a.toNat < ns.length := by omega
  have hqb : (ns.getD q default).b.toNat < ns.length := by omega
  have haA : 2 ≤ (ns.getD (ns.getD q default).a.toNat default).op → (0 ≤ (ns.getD (ns.getD q default).a.toNat default).a ∧ (ns.getD (ns.getD q default).a.toNat default).a < (ns.getD q default).a) ∧ (0 ≤ (ns.getD (ns.getD q default).a.toNat default).b ∧ (ns.getD (ns.getD q default).a.toNat default).b < (ns.getD q default).a) := fun h => by
    have := hX.ab hqa h; omega
  have hbA : 2 ≤ (ns.getD (ns.getD q default).b.toNat default).op → 0 ≤ (ns.getD (ns.getD q default).b.toNat default).a ∧ (ns.getD (ns.getD q default).b.toNat default).a < (ns.getD q default).b := fun h => by
    have := (hX.ab hqb h).1; omega
  rcases (show ch = 1 ∨ ch = 2 ∨ ch = 3 ∨ ch = 4 ∨ ch = 5 ∨ ch = 6 ∨ ch = 7 ∨ ch = 8 by have := cX_ch h; omega) with e | e | e | e | e | e | e | e
  all_goals subst e
  · rw [cX_1 hz] at h
    obtain ⟨hne, rfl⟩ := some_n (show (if _ then none else some _ : Option Nd) = some n from h)
    have l1 := fsN_le ns (ns.getD q default).a.toNat
    have l2 := fsN_le ns (ns.getD q default).b.toNat
    refine ndW_lt ?_
    show ((fsN ns (ns.getD q default).a.toNat : Nat) : Int).toNat + ((fsN ns (ns.getD q default).b.toNat : Nat) : Int).toNat < _
    omega
  · rw [cX_2 hz] at h
    obtain ⟨hp, rfl⟩ := some_of (show (if _ then some _ else none : Option Nd) = some n from h)
    have h8 : (ns.getD (ns.getD q default).a.toNat default).op = 8 := hp.2
    have := (haA (by omega)).1
    refine ndW_lt ?_
    show (ns.getD (ns.getD q default).a.toNat default).a.toNat + Int.toNat 0 < _
    have : Int.toNat 0 = 0 := rfl
    omega
  · rw [cX_3 hz] at h
    obtain ⟨hp, rfl⟩ := some_of (show (if _ then some _ else none : Option Nd) = some n from h)
    have h8 : (ns.getD (ns.getD q default).a.toNat default).op = 9 := hp.2
    have := (haA (by omega)).1
    refine ndW_lt ?_
    show (ns.getD (ns.getD q default).a.toNat default).a.toNat + Int.toNat 0 < _
    have : Int.toNat 0 = 0 := rfl
    omega
  · rw [cX_4 hz] at h
    obtain ⟨hp, rfl⟩ := some_of (show (if _ then some _ else none : Option Nd) = some n from h)
    have h8 : (ns.getD (ns.getD q default).a.toNat default).op = 6 := hp.2
    have := (haA (by omega)).1
    refine ndW_lt ?_
    show (ns.getD (ns.getD q default).a.toNat default).a.toNat + Int.toNat 0 < _
    have : Int.toNat 0 = 0 := rfl
    omega
  · rw [cX_5 hz] at h
    have h : c5 (ns.getD q default) (ns.getD (ns.getD q default).a.toNat default) (ns.getD (ns.getD q default).b.toNat default) = some n := h
    unfold c5 at h
    split at h
    · rename_i hp
      cases h
      have := hbA (by omega)
      refine ndW_lt ?_
      show (ns.getD q default).a.toNat + (ns.getD (ns.getD q default).b.toNat default).a.toNat < _
      omega
    · split at h
      · rename_i hp
        cases h
        have := hbA (by omega)
        refine ndW_lt ?_
        show (ns.getD q default).a.toNat + (ns.getD (ns.getD q default).b.toNat default).a.toNat < _
        omega
      · obtain ⟨hp, rfl⟩ := some_of h
        have := hbA (by omega)
        have := (haA (by omega)).1
        refine ndW_lt ?_
        show (ns.getD (ns.getD q default).a.toNat default).a.toNat + (ns.getD (ns.getD q default).b.toNat default).a.toNat < _
        omega
  · rw [cX_6 hz] at h
    obtain ⟨hp, rfl⟩ := some_of (show (if _ then some _ else none : Option Nd) = some n from h)
    have h8 : (ns.getD (ns.getD q default).a.toNat default).op = 10 := hp.2.1
    have := (haA (by omega)).1
    refine ndW_lt ?_
    show (ns.getD (ns.getD q default).a.toNat default).a.toNat + Int.toNat 0 < _
    have : Int.toNat 0 = 0 := rfl
    omega
  · rw [cX_7 hz] at h
    have h : c7 (ns.getD q default) (ns.getD (ns.getD q default).a.toNat default) ss = some n := h
    unfold c7 at h
    have t0 : Int.toNat 0 = 0 := rfl
    split at h
    · rename_i hp
      have h8 : (ns.getD (ns.getD q default).a.toNat default).op = 11 := hp.2.1
      have := haA (by omega)
      split at h
      · cases h
        refine ndW_lt ?_
        show (ns.getD (ns.getD q default).a.toNat default).b.toNat + Int.toNat 0 < _
        omega
      · obtain ⟨-, rfl⟩ := some_of h
        refine ndW_lt ?_
        show (ns.getD (ns.getD q default).a.toNat default).a.toNat + Int.toNat 0 < _
        omega
    · cases h
  · rw [cX_8 hz] at h
    obtain ⟨hp, rfl⟩ := some_of (show (if _ then some _ else none : Option Nd) = some n from h)
    unfold ndW swW
    rw [if_pos hp]
    show 13 * ((ns.getD q default).b.toNat + (ns.getD q default).a.toNat) + (if (_ ∧ (ns.getD q default).a < (ns.getD q default).b) then 1 else 0) < _
    rw [if_neg (by omega)]; omega
theorem ExI.drop_le {xss ss : List (List Int)} {ns : List Nd} (hX : ExI xss ns ss) (g : Nat) : ∀ k, k ≤ ns.length → ((dTo ns g k).map ndW).sum ≤ ((ns.take k).map ndW).sum + k
  | 0, _ => Nat.zero_le _
  | k + 1, hk => by
    have ih := ExI.drop_le hX g k (by omega)
    have hq : k < ns.length := by omega
    rw [takeN_snoc hq, List.map_append, List.sum_append]
    by_cases e : k = g
    · rw [dTo_g e]; omega
    · rw [dTo_n e, List.map_append, List.sum_append]
      have hop := hX.op hq
      have hpc := pcN_cases (ns.getD k default).op
      have h12 := hX.n12
      have key : ndW (clo g (ns.getD k default)) ≤ ndW (ns.getD k default) + 1 := by
        have hs := swW_le (clo g (ns.getD k default))
        have hab : (clo g (ns.getD k default)).a.toNat ≤ (ns.getD k default).a.toNat ∧ (clo g (ns.getD k default)).b.toNat ≤ (ns.getD k default).b.toNat := by
          unfold clo
          refine ⟨?_, ?_⟩
          · show (if pcN (ns.getD k default).op ≠ 0 ∧ (g : Int) < (ns.getD k default).a then IntKind.i64.wrap ((ns.getD k default).a - 1) else (ns.getD k default).a).toNat ≤ _
            split
            · have := hX.ab hq (by omega)
              rw [IntWalk.i64_in _ (by omega)]; omega
            · exact Nat.le_refl _
          · show (if (g : Int) < (ns.getD k default).b then IntKind.i64.wrap ((ns.getD k default).b - 1) else (ns.getD k default).b).toNat ≤ _
            split
            · by_cases h2 : 2 ≤ (ns.getD k default).op
              · have := hX.ab hq h2
                rw [IntWalk.i64_in _ (by omega)]; omega
              · have := hX.b0 hq (by omega); omega
            · exact Nat.le_refl _
        unfold ndW; omega
      simp only [List.map_cons, List.map_nil, List.sum_cons, List.sum_nil]
      omega
theorem step_of {xss : List (List Int)} {ns : List Nd} {x : List Int} {r : List (List Int)} (h : chL xss ns = x :: r) (hE : eP ns) :
    x.length = 2 ∧ ∃ L, cdO xss ns (x.getD (Int.toNat 0) 0) (x.getD (Int.toNat 1) 0) = some L ∧ mu L < mu ns ∧ eP L := by
  obtain ⟨hM, c, k, rfl, hc, hk, hb⟩ := chL_p (xss := xss) (ns := ns) (x := x) (by rw [h]; exact List.mem_cons_self)
  have hX := exI_of hM
  refine ⟨rfl, ?_⟩
  show ∃ L, cdO xss ns (c : Int) (k : Int) = some L ∧ _
  by_cases hc0 : c = 0
  · subst hc0
    rw [chB_0] at hb
    have hd := of_decide_eq_true hb
    refine ⟨dropN ns k, (cdO_0 hM hk).trans (if_pos hd), ?_, ?_⟩
    · have h1 := hX.drop_le k ns.length (Nat.le_refl _)
      have h2 := dTo_len (ns := ns) ns.length hk
      have h12 := hX.n12
      rw [List.take_length] at h1
      unfold mu dropN
      rw [h2]; omega
    · exact fun j hj => dTo_e hE _ (Nat.le_refl _) j hj
  · rw [chB_s hc0] at hb
    obtain ⟨n, hn⟩ := Option.isSome_iff_exists.1 hb
    refine ⟨ns.set k n, (cdO_c hM hk (by omega)).trans (by rw [hn]; rfl), mu_set hk (hX.cX_lt hk hn), fun j hj => ?_⟩
    rw [List.length_set] at hj
    rw [getD_setG hk]
    split
    · exact ⟨by have := hX.cX_l3 hk hn; omega, hX.cX_wf hE hk hn⟩
    · exact hE j hj
  where
  dTo_e {ns : List Nd} {g : Nat} (h : eP ns) : ∀ m, m ≤ ns.length → ∀ k, k < (dTo ns g m).length → ((dTo ns g m).getD k default).l.length ≤ 1048576 ∧ wfL ((dTo ns g m).getD k default).l
    | 0, _, k, hk => absurd hk (Nat.not_lt_zero _)
    | m + 1, hm, k, hk => by
      by_cases e : m = g
      · rw [dTo_g e] at hk ⊢
        exact dTo_e h m (by omega) k hk
      · rw [dTo_n e] at hk ⊢
        rw [List.length_append, List.length_singleton] at hk
        by_cases hk' : k < (dTo ns g m).length
        · rw [getD_app1 hk']; exact dTo_e h m (by omega) k hk'
        · rw [getD_app2 (by omega)]; exact h m (by omega)
def tdI (xss : List (List Int)) : Nat → List Nd → List Nd
  | 0, L => L
  | f + 1, L => match chL xss L with
    | [] => L
    | x :: _ => match cdO xss L (x.getD (Int.toNat 0) 0) (x.getD (Int.toNat 1) 0) with
      | some L' => tdI xss f L'
      | none => L
theorem tdI_e {xss : List (List Int)} {L : List Nd} (h : chL xss L = []) : ∀ f, tdI xss f L = L
  | 0 => rfl
  | f + 1 => by unfold tdI; rw [h]
theorem tdI_s {xss : List (List Int)} {L L' : List Nd} {x : List Int} {r : List (List Int)} (h : chL xss L = x :: r) (hO : cdO xss L (x.getD (Int.toNat 0) 0) (x.getD (Int.toNat 1) 0) = some L') (f : Nat) : tdI xss (f + 1) L = tdI xss f L' := by
  unfold tdI; rw [h]; simp only; rw [hO]
  cases f <;> rfl
theorem tdI_stab {xss : List (List Int)} : ∀ (f : Nat) (L : List Nd), eP L → mu L ≤ f → ∀ g, mu L ≤ g → tdI xss f L = tdI xss g L
  | f, L, hE, hf, g, hg => by
    cases hc : chL xss L with
    | nil => rw [tdI_e hc, tdI_e hc]
    | cons x r =>
      obtain ⟨-, L', hO, hm, hE'⟩ := step_of hc hE
      match f, hf, g, hg with
      | 0, hf, _, _ => omega
      | f + 1, hf, 0, hg => omega
      | f + 1, hf, g + 1, hg =>
        rw [tdI_s hc hO, tdI_s hc hO]
        exact tdI_stab f L' hE' (by omega) g (by omega)
def tdV (xss : List (List Int)) (ns : List Nd) : List Nd := tdI xss (mu ns) ns
theorem tdV_e {xss : List (List Int)} {L : List Nd} (h : chL xss L = []) : tdV xss L = L := tdI_e h _
theorem tdV_s {xss : List (List Int)} {L L' : List Nd} {x : List Int} {r : List (List Int)} (h : chL xss L = x :: r) (hO : cdO xss L (x.getD (Int.toNat 0) 0) (x.getD (Int.toNat 1) 0) = some L') (hm : mu L' < mu L) (hE' : eP L') : tdV xss L = tdV xss L' := by
  unfold tdV
  obtain ⟨m, hm'⟩ : ∃ m, mu L = m + 1 := ⟨mu L - 1, by omega⟩
  rw [hm', tdI_s h hO]
  exact tdI_stab m L' hE' (by omega) _ (Nat.le_refl _)
def tdE (xss : List (List Int)) (ns : List Nd) : Ex := if (shM xss ns).2 = true then (xss, tdV xss ns) else ([], [])
def sTidy : CSpec := fnEB (ι := Nat × List (List Int) × List Nd) 3 38 75 (fun | (c, xss, ns) => [.agg [.sl c xss.length (xss.map (slI c)), .sl c ns.length (ns.flatMap (ndC c))]]) (fun | (_, _, ns) => eP ns) (fun | (_, xss, ns) => tdE xss ns) (fun | (_, xss, ns) => (shM xss ns).2)
end Go.Proofs.YtjmdhfjemaoebaaGreat
namespace Go.Proofs.YtjmdhfjemaoebaaGreat
set_option maxRecDepth 20000
open Go.RowKit Go.Am
set_option linter.unusedSimpArgs false
attribute [local irreducible] aPlan aGet aIf aLoop aCall RetB NextB CallB CallG aCut aSet aAppend
set_option maxHeartbeats 8000000 in
theorem sChangeDo_sound1 : Sound Tryz.prog 38 (sChangeDo true) := by
  refine sound_of Tryz.func38 rfl (enters_of Tryz.func38 (by kernel_rfl) (by kernel_rfl)) ?_
  rintro ⟨c, xss, ns, ch, p⟩ ⟨hE, hc1⟩
  have hE : eP ns := hE
  obtain rfl : c = 1 := hc1 rfl
  have hmax : maxLen = 9223372036854775807 := rfl
  by_cases hv : (shM xss ns).2 = true ∧ 0 ≤ p ∧ p < ns.length
  · obtain ⟨hM, hp⟩ := hv
    obtain ⟨q, rfl⟩ : ∃ q : Nat, p = q := ⟨p.toNat, by omega⟩
    have hq : q < ns.length := by omega
    have hX := exI_of hM
    have h12 := hX.n12
    have hok : okV xss ns ch q = okC xss ns ch q := (if_pos ⟨hM, hp⟩).trans (by rw [Int.toNat_natCast])
    by_cases hc : ch = 0
    · subst hc
      rw [okC_0] at hok
      have hO := cdO_0 hM hq
      have hdr := dr_bl hM hq
      cases hne : (neL xss ns).getD q false with
      | true =>
        rw [hne] at hok hdr
        have hO := hO.trans (if_neg (of_decide_eq_false hdr))
        conv => whnf
        repeat' (first
          | ((first | refine sChangeOk_callV hE hok ?_ | refine plan_in (id := 6) [0, 1, 2, 3, 4, 5, 6, 7, 8, 9, 10, 11, 12] (by kernel_rfl) (by kernel_rfl) ?_ | refine aIf_t ?_ | refine aIf_f ?_ | refine load_same ?_ | refine And.intro rfl (And.intro (List.cons_ne_nil _ _) ?_) | refine And.intro (Nat.le_of_ble_eq_true rfl) ?_ | refine callG_t ?_ | refine append_same ?_ | refine And.intro (pureL_ii _ _) ?_ | refine And.intro (pureL_nd _ _) ?_ | refine takeN_in ?_ | refine set_force ?_ | refine And.intro (by kernel_rfl) ?_); conv => whnf))
        all_goals (first | (exfalso; omega) | contradiction | skip)
        all_goals exact retEB (cdE_n hO) (congrArg Option.isSome hO).symm (by decide) rfl rfl rfl rfl rfl rfl
      | false =>
        rw [hne] at hok hdr
        cases hbl : blB ns q with
        | true =>
          rw [hbl] at hdr
          have hO := hO.trans (if_neg (of_decide_eq_false hdr))
          conv => whnf
          repeat' (first
            | ((first | refine sChangeOk_callV hE hok ?_ | refine l6Below_callV hM hq hbl ?_ | refine plan_in (id := 6) [0, 1, 2, 3, 4, 5, 6, 7, 8, 9, 10, 11, 12] (by kernel_rfl) (by kernel_rfl) ?_ | refine aIf_t ?_ | refine aIf_f ?_ | refine load_same ?_ | refine And.intro rfl (And.intro (List.cons_ne_nil _ _) ?_) | refine And.intro (Nat.le_of_ble_eq_true rfl) ?_ | refine callG_t ?_ | refine append_same ?_ | refine And.intro (pureL_ii _ _) ?_ | refine And.intro (pureL_nd _ _) ?_ | refine takeN_in ?_ | refine set_force ?_ | refine And.intro (by kernel_rfl) ?_); conv => whnf))
          all_goals (first | (exfalso; omega) | contradiction | skip)
          all_goals exact retEB (cdE_n hO) (congrArg Option.isSome hO).symm (by decide) rfl rfl rfl rfl rfl rfl
        | false =>
          rw [hbl] at hdr
          have hO := hO.trans (if_pos (of_decide_eq_true hdr))
          have hcp := hX.cpD q
          conv => whnf
          repeat' (first
            | ((first | refine sChangeOk_callV hE hok ?_ | refine l6Below_callV hM hq hbl ?_ | refine l6Copy_callE hcp ?_ | refine plan_in (id := 6) [0, 1, 2, 3, 4, 5, 6, 7, 8, 9, 10, 11, 12] (by kernel_rfl) (by kernel_rfl) ?_ | refine aIf_t ?_ | refine aIf_f ?_ | refine load_same ?_ | refine And.intro rfl (And.intro (List.cons_ne_nil _ _) ?_) | refine And.intro (Nat.le_of_ble_eq_true rfl) ?_ | refine callG_t ?_ | refine append_same ?_ | refine And.intro (pureL_ii _ _) ?_ | refine And.intro (pureL_nd _ _) ?_ | refine l6Drop_call (by assumption) (by omega) ?_ | refine cut_ndC rfl ?_ | refine takeN_in ?_ | refine set_force ?_ | refine And.intro (by kernel_rfl) ?_); conv => whnf))
          all_goals (first | (exfalso; omega) | contradiction | skip)
          all_goals exact retEB (cdE_s hO) (congrArg Option.isSome hO).symm (by decide) rfl rfl rfl rfl rfl rfl
    · have hO := cdO_c hM hq hc
      rw [okC_s hc] at hok
      cases hn : cX ns (shM xss ns).1 ch q with
      | none =>
        rw [hn] at hO hok
        have hO : cdO xss ns ch q = none := hO
        have hok : okV xss ns ch q = false := hok
        conv => whnf
        repeat' (first
          | ((first | refine sChangeOk_callV hE hok ?_ | refine plan_in (id := 6) [0, 1, 2, 3, 4, 5, 6, 7, 8, 9, 10, 11, 12] (by kernel_rfl) (by kernel_rfl) ?_ | refine aIf_t ?_ | refine aIf_f ?_ | refine load_same ?_ | refine And.intro rfl (And.intro (List.cons_ne_nil _ _) ?_) | refine And.intro (Nat.le_of_ble_eq_true rfl) ?_ | refine callG_t ?_ | refine append_same ?_ | refine And.intro (pureL_ii _ _) ?_ | refine And.intro (pureL_nd _ _) ?_ | refine takeN_in ?_ | refine set_force ?_ | refine And.intro (by kernel_rfl) ?_); conv => whnf))
        all_goals (first | (exfalso; omega) | contradiction | skip)
        all_goals exact retEB (cdE_n hO) (congrArg Option.isSome hO).symm (by decide) rfl rfl rfl rfl rfl rfl
      | some n =>
        rw [hn] at hO hok
        have hO : cdO xss ns ch q = some (ns.set q n) := hO
        have hok : okV xss ns ch q = true := hok
        have hch := cX_ch hn
        have hcp := hX.cpP
        have hcs := hX.cpS hq hn
        conv => whnf
        repeat' (first
          | ((first | refine sChangeOk_callV hE hok ?_ | refine l6Copy_callE hcp ?_); conv => whnf) | (refine l6Do_call hE hM hq rfl hn hch ?_ ?_ <;> conv => whnf) | ((first | refine set_nodeN (p := q) (by simp) hq ?_ | refine And.intro (fit_node (p := q) (by simp) hq) ?_ | refine l6Copy_mix (xss := xss) (ns := ns) (n := n) (q := q) (d := 1) (u := .sl 1 n.l.length (n.l.map (.int .i64))) rfl rfl hq (tree_sl (pureL_ints _ _)) rfl rfl hcs ?_ | refine l6Copy_mixR (xss := xss) (ns := ns) (n := n) (q := q) rfl rfl rfl rfl hq rfl rfl hcs ?_ | refine plan_in (id := 6) [0, 1, 2, 3, 4, 5, 6, 7, 8, 9, 10, 11, 12] (by kernel_rfl) (by kernel_rfl) ?_ | refine aIf_t ?_ | refine aIf_f ?_ | refine aGet_in rfl ?_ | refine And.intro (by omega) ?_ | refine load_same ?_ | refine And.intro rfl (And.intro (List.cons_ne_nil _ _) ?_) | refine And.intro (Nat.le_of_ble_eq_true rfl) ?_ | refine callG_t ?_ | refine append_same ?_ | refine part_nd_n (by omega) ?_ | refine And.intro (pureL_ii _ _) ?_ | refine And.intro (pureL_nd _ _) ?_ | refine l6Below_call (by assumption) (by omega) ?_ | refine l6Drop_call (by assumption) (by omega) ?_ | refine cut_ndC rfl ?_ | refine takeN_in ?_ | refine And.intro (pureL_ints _ _) ?_ | refine set_force ?_ | refine And.intro (by kernel_rfl) ?_); conv => whnf) | refine aIf_eqt ?_
          | (refine aIf_dec (fun _ => ?_) (fun _ => ?_) <;> conv => whnf) | (refine aIf_in (fun _ => ?_) (fun _ => ?_) <;> conv => whnf))
        all_goals (first | (exfalso; omega) | contradiction | skip)
        all_goals exact retEB (cdE_s hO) (congrArg Option.isSome hO).symm (by decide) rfl rfl rfl rfl rfl rfl
  · have hO := cdO_f (ch := ch) hv
    have hok : okV xss ns ch p = false := if_neg hv
    conv => whnf
    repeat' (first
      | ((first | refine sChangeOk_callV hE hok ?_ | refine plan_in (id := 6) [0, 1, 2, 3, 4, 5, 6, 7, 8, 9, 10, 11, 12] (by kernel_rfl) (by kernel_rfl) ?_ | refine aIf_t ?_ | refine aIf_f ?_ | refine load_same ?_ | refine And.intro rfl (And.intro (List.cons_ne_nil _ _) ?_) | refine And.intro (Nat.le_of_ble_eq_true rfl) ?_ | refine callG_t ?_ | refine append_same ?_ | refine And.intro (pureL_ii _ _) ?_ | refine And.intro (pureL_nd _ _) ?_ | refine takeN_in ?_ | refine set_force ?_ | refine And.intro (by kernel_rfl) ?_); conv => whnf))
    all_goals (first | (exfalso; omega) | contradiction | skip)
    all_goals exact retEB (cdE_n hO) (congrArg Option.isSome hO).symm (by decide) rfl rfl rfl rfl rfl rfl
theorem sChangeDo_sound : Sound Tryz.prog 38 (sChangeDo false) := by
  have h1 : Sound Tryz.prog 38 { sChangeDo false with args := fun | (_, xss, ns, ch, p) => [.agg [.sl 1 xss.length (xss.map (slI 1)), .sl 1 ns.length (ns.flatMap (ndC 1))], .int .i64 ch, .int .i64 p] } := by
    refine ⟨sChangeDo_sound1.1, ?_⟩
    rintro ⟨c, xss, ns, ch, p⟩ hpre
    exact sChangeDo_sound1.2 (1, xss, ns, ch, p) ⟨hpre.1, fun _ => rfl⟩
  refine sound_one (sp := { sChangeDo false with args := fun | (_, xss, ns, ch, p) => [.agg [.sl 1 xss.length (xss.map (slI 1)), .sl 1 ns.length (ns.flatMap (ndC 1))], .int .i64 ch, .int .i64 p] }) (sChangeDo false).args h1 (fun _ => rfl) ?_ ?_
  · rintro ⟨c, xss, ns, ch, p⟩
    show [.agg [.sl 1 xss.length (xss.map (slI 1)), .sl 1 ns.length (ns.flatMap (ndC 1))], .int .i64 ch, .int .i64 p] = oneL [.agg [.sl c xss.length (xss.map (slI c)), .sl c ns.length (ns.flatMap (ndC c))], .int .i64 ch, .int .i64 p]
    simp only [oneL, AV.one, oneL_ii, oneL_nd]
  · rintro ⟨c, xss, ns, ch, p⟩ r ic news ⟨-, rfl, rfl⟩
    refine ⟨rfl, fun m hm => ?_⟩
    rcases List.mem_cons.1 hm with rfl | hm
    · exact bareL_oi _ _
    · rcases List.mem_cons.1 hm with rfl | hm
      · exact bareL_ond _ _
      · simp at hm
theorem sChangeDo_call {c : Nat} {ch p : Int} {xss : List (List Int)} {ns : List Nd} {env : List AV} {rows : List Row} {ctr low : Nat} {k : AV → St → Prop} (hE : eP ns)
    (h : k (.tup [.agg [.ref rows.length ctr 0 (cdE xss ns ch p).1.length, .ref (rows.length + 1) ctr 0 (cdE xss ns ch p).2.length], .bool (cdO xss ns ch p).isSome]) ⟨env, rows ++ [⟨ctr, 38, 1, (cdE xss ns ch p).1.map (ownI 3)⟩, ⟨ctr, 75, 4, (cdE xss ns ch p).2.flatMap (ndO 3)⟩], ctr + 1, low⟩) :
    CallB Tryz.prog 38 ⟨env, rows, ctr, low⟩ [.agg [.sl c xss.length (xss.map (slI c)), .sl c ns.length (ns.flatMap (ndC c))], .int .i64 ch, .int .i64 p] k := callEB_in sChangeDo_sound (c, xss, ns, ch, p) ⟨hE, fun h => Bool.noConfusion h⟩ h
end Go.Proofs.YtjmdhfjemaoebaaGreat
