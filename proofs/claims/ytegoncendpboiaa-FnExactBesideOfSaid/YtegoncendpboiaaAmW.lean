/- The abstract machine, part W: rows that are filled element by element. -/
import Derived.Test.YtegoncendpboiaaAmV
namespace Go.Am
open Go.RowKit

/-! Rows that are filled element by element. -/
def fillC {α : Type} (f : α → AV) (l : List α) (k : Nat) (u : AV) : List AV := (l.take k).map f ++ List.replicate (l.length - k) u
def fillF {α : Type} (f : α → List AV) (l : List α) (k : Nat) (us : List AV) : List AV := (l.take k).flatMap f ++ (List.replicate (l.length - k) us).flatten
theorem fillC_length {α : Type} {f : α → AV} {l : List α} {k : Nat} {u : AV} (h : k ≤ l.length) : (fillC f l k u).length = l.length := by
  simp [fillC]; omega
theorem rep_length : ∀ (n : Nat) (us : List AV), ((List.replicate n us).flatten).length = n * us.length
  | 0, us => by simp
  | n + 1, us => by rw [List.replicate_succ, List.flatten_cons, List.length_append, rep_length n us, Nat.add_mul, Nat.one_mul, Nat.add_comm]
theorem fillF_length {α : Type} {f : α → List AV} {z : Nat} (hz : ∀ x, (f x).length = z) {l : List α} {k : Nat} {us : List AV} (hu : us.length = z) (h : k ≤ l.length) : (fillF f l k us).length = l.length * z := by
  unfold fillF
  rw [List.length_append, flat_len hz, rep_length, hu, List.length_take, Nat.min_eq_left h, ← Nat.add_mul]
  congr 1; omega
theorem set_app {A us vs B : List AV} {off : Nat} {K : List AV → Prop} (ho : off = A.length) (hl : us.length = vs.length) (hK : K (A ++ (us ++ B))) : aSet (A ++ (vs ++ B)) off us K := by
  unfold aSet
  subst ho
  have e : (A ++ (vs ++ B)).take A.length = A := List.take_left
  have e' : (A ++ (vs ++ B)).drop (A.length + us.length) = B := by
    rw [← List.drop_drop, List.drop_left, hl, List.drop_left]
  rw [e, e']
  exact hK
theorem rep_cons {k n : Nat} (us : List AV) (h : k < n) : (List.replicate (n - k) us).flatten = us ++ (List.replicate (n - k - 1) us).flatten := by
  obtain ⟨m, hm⟩ : ∃ m, n - k = m + 1 := ⟨n - k - 1, by omega⟩
  rw [hm, List.replicate_succ, List.flatten_cons]
  simp
theorem rep_cons1 {k n : Nat} (u : AV) (h : k < n) : List.replicate (n - k) u = [u] ++ List.replicate (n - k - 1) u := by
  obtain ⟨m, hm⟩ : ∃ m, n - k = m + 1 := ⟨n - k - 1, by omega⟩
  rw [hm, List.replicate_succ]
  simp
theorem set_fillC {α : Type} {f : α → AV} {l : List α} {k off : Nat} {u v : AV} {K : List AV → Prop} (h : k < l.length) (ho : off = k) (hK : forceV0 v fun v => K ((l.take k).map f ++ ([v] ++ List.replicate (l.length - k - 1) u))) : aSet (fillC f l k u) off [v] K := by
  rw [forceV0_eq] at hK
  unfold fillC
  rw [rep_cons1 u h]
  refine set_app ?_ rfl hK
  rw [ho, List.length_map, List.length_take]; omega
theorem set_fillF {α : Type} {f : α → List AV} {z : Nat} (hz : ∀ x, (f x).length = z) {l : List α} {k : Nat} {us vs : List AV} {K : List AV → Prop} (h : k < l.length) (hl : vs.length = us.length) (hK : forceL vs fun vs => K ((l.take k).flatMap f ++ (vs ++ (List.replicate (l.length - k - 1) us).flatten))) : aSet (fillF f l k us) (0 + (k : Int).toNat * z) vs K := by
  rw [forceL_eq] at hK
  unfold fillF
  rw [rep_cons us h]
  refine set_app ?_ hl hK
  rw [Nat.zero_add, Int.toNat_natCast, flat_len hz, List.length_take, Nat.min_eq_left (Nat.le_of_lt h)]
theorem set_mid {A us B : List AV} {o i : Nat} {x : AV} (ho : o = A.length + i) (hi : i < us.length) : (A ++ (us ++ B)).set o x = A ++ (us.set i x ++ B) := by
  subst ho
  rw [List.set_append_right _ _ (by omega), Nat.add_sub_cancel_left, List.set_append_left _ _ hi]
theorem get_mid {A us B : List AV} {o i : Nat} {x : AV} (ho : o = A.length + i) (hx : us[i]? = some x) : (A ++ (us ++ B))[o]? = some x := by
  subst ho
  rw [List.getElem?_append_right (by omega), Nat.add_sub_cancel_left, List.getElem?_append_left (List.getElem?_eq_some_iff.1 hx).1]
  exact hx
theorem take_succ_map {α : Type} {f : α → AV} {l : List α} (d : α) {k : Nat} (h : k < l.length) : (l.take (k + 1)).map f = (l.take k).map f ++ [f (l.getD k d)] := by
  rw [List.take_add_one, List.map_append, getD_eq (d := d) h]; rfl
theorem take_succ_flat {α : Type} {f : α → List AV} {l : List α} (d : α) {k : Nat} (h : k < l.length) : (l.take (k + 1)).flatMap f = (l.take k).flatMap f ++ f (l.getD k d) := by
  rw [List.take_add_one, List.flatMap_append, getD_eq (d := d) h]; simp
theorem fillC_next {α : Type} {f : α → AV} {l : List α} (d : α) {k : Nat} {u : AV} (h : k < l.length) : fillC f l (k + 1) u = (l.take k).map f ++ ([f (l.getD k d)] ++ List.replicate (l.length - k - 1) u) := by
  unfold fillC
  rw [take_succ_map d h, List.append_assoc, Nat.sub_sub]
theorem fillF_next {α : Type} {f : α → List AV} {l : List α} (d : α) {k : Nat} {us : List AV} (h : k < l.length) : fillF f l (k + 1) us = (l.take k).flatMap f ++ (f (l.getD k d) ++ (List.replicate (l.length - k - 1) us).flatten) := by
  unfold fillF
  rw [take_succ_flat d h, List.append_assoc, Nat.sub_sub]
theorem fillC_all {α : Type} {f : α → AV} {l : List α} {k : Nat} {u : AV} (h : k = l.length) : fillC f l k u = l.map f := by
  subst h; simp [fillC]
theorem fillF_all {α : Type} {f : α → List AV} {l : List α} {k : Nat} {us : List AV} (h : k = l.length) : fillF f l k us = l.flatMap f := by
  subst h; simp [fillF]
theorem pureL_rep (u : AV) (h : u.pure = true) : ∀ (n : Nat), pureL (List.replicate n u) = true
  | 0 => rfl
  | n + 1 => by rw [List.replicate_succ]; show (u.pure && pureL (List.replicate n u)) = true; rw [h, pureL_rep u h n]; rfl
theorem pureL_repF (us : List AV) (h : pureL us = true) : ∀ (n : Nat), pureL ((List.replicate n us).flatten) = true
  | 0 => rfl
  | n + 1 => by rw [List.replicate_succ, List.flatten_cons]; exact pureL_app h (pureL_repF us h n)
theorem fillC_pure {α : Type} {f : α → AV} {l : List α} {k : Nat} {u : AV} (hf : ∀ x, (f x).pure = true) (hu : u.pure = true) : pureL (fillC f l k u) = true := pureL_app (pureL_map hf _) (pureL_rep u hu _)
theorem fillF_pure {α : Type} {f : α → List AV} {l : List α} {k : Nat} {us : List AV} (hf : ∀ x, pureL (f x) = true) (hu : pureL us = true) : pureL (fillF f l k us) = true := pureL_app (pureL_flat hf _) (pureL_repF us hu _)
theorem le_cells {cs cs' : List AV} {p : Prop} (h : cs = cs') (hp : pureL cs' = true) : (pureL cs = true ∧ cs' = cs) ∨ p := .inl ⟨by rw [h]; exact hp, h.symm⟩
theorem le_fillC {α : Type} {f : α → AV} {l : List α} {u : AV} {p : Prop} (hf : ∀ x, (f x).pure = true) (hu : u.pure = true) : (pureL (rep (l.length : Int).toNat [u]) = true ∧ fillC f l 0 u = rep (l.length : Int).toNat [u]) ∨ p :=
  le_cells (by simp [rep, fillC]) (fillC_pure hf hu)
theorem le_fillF {α : Type} {f : α → List AV} {l : List α} {u v : AV} {us : List AV} {p : Prop} (hf : ∀ x, pureL (f x) = true) (hu : pureL (u :: v :: us) = true) : (pureL (rep (l.length : Int).toNat (u :: v :: us)) = true ∧ fillF f l 0 (u :: v :: us) = rep (l.length : Int).toNat (u :: v :: us)) ∨ p :=
  le_cells (by simp [rep, fillF]) (fillF_pure hf hu)
theorem tk_len {α : Type} {f : α → AV} {l : List α} {k : Nat} (h : k < l.length) : k = ((l.take k).map f).length := by rw [List.length_map, List.length_take]; omega
theorem tkF_len {α : Type} {f : α → List AV} {z : Nat} (hz : ∀ x, (f x).length = z) {l : List α} {k i : Nat} (h : k < l.length) : k * z + i = ((l.take k).flatMap f).length + i := by rw [flat_len hz, List.length_take, Nat.min_eq_left (Nat.le_of_lt h)]
theorem get_fillC {α : Type} {f : α → AV} {l : List α} {k : Nat} {v : AV} {B : List AV} (h : k < l.length) : ((l.take k).map f ++ ([v] ++ B))[k]? = some v := get_mid (i := 0) (tk_len h) rfl
theorem get_fillF {α : Type} {f : α → List AV} {z : Nat} (hz : ∀ x, (f x).length = z) {l : List α} {k i : Nat} {v : AV} {vs B : List AV} (h : k < l.length) (hv : vs[i]? = some v) : ((l.take k).flatMap f ++ (vs ++ B))[k * z + i]? = some v := get_mid (i := i) (tkF_len hz h) hv
theorem get_fillF2 {α : Type} {f : α → List AV} {z : Nat} (hz : ∀ x, (f x).length = z) {l : List α} {k i j : Nat} {v x : AV} {vs B : List AV} (h : k < l.length) (hj : j < vs.length) (hv : (vs.set j x)[i]? = some v) : (((l.take k).flatMap f ++ (vs ++ B)).set (k * z + j) x)[k * z + i]? = some v := by
  rw [set_mid (tkF_len hz h) hj]; exact get_mid (i := i) (tkF_len hz h) hv
theorem le_closeC {α : Type} {f : α → AV} {l : List α} (d : α) {k : Nat} {u v x : AV} {p : Prop} (h : k < l.length) (hx : x = f (l.getD k d)) (hf : ∀ x, (f x).pure = true) (hu : u.pure = true) :
    (pureL (((l.take k).map f ++ ([v] ++ List.replicate (l.length - k - 1) u)).set k x) = true ∧ fillC f l (k + 1) u = ((l.take k).map f ++ ([v] ++ List.replicate (l.length - k - 1) u)).set k x) ∨ p := by
  refine le_cells ?_ (fillC_pure hf hu)
  rw [set_mid (i := 0) (tk_len h) (by simp), fillC_next d h, hx]; rfl
theorem le_closeF {α : Type} {f : α → List AV} {z : Nat} (hz : ∀ x, (f x).length = z) {l : List α} (d : α) {k i : Nat} {us vs : List AV} {x : AV} {p : Prop} (h : k < l.length) (hi : i < vs.length) (hx : vs.set i x = f (l.getD k d)) (hf : ∀ x, pureL (f x) = true) (hu : pureL us = true) :
    (pureL (((l.take k).flatMap f ++ (vs ++ (List.replicate (l.length - k - 1) us).flatten)).set (k * z + i) x) = true ∧ fillF f l (k + 1) us = ((l.take k).flatMap f ++ (vs ++ (List.replicate (l.length - k - 1) us).flatten)).set (k * z + i) x) ∨ p := by
  refine le_cells ?_ (fillF_pure hf hu)
  rw [set_mid (tkF_len hz h) hi, fillF_next d h, hx]
theorem le_closeF2 {α : Type} {f : α → List AV} {z : Nat} (hz : ∀ x, (f x).length = z) {l : List α} (d : α) {k i j : Nat} {us vs : List AV} {x y : AV} {p : Prop} (h : k < l.length) (hi : i < vs.length) (hj : j < (vs.set i x).length) (hx : (vs.set i x).set j y = f (l.getD k d)) (hf : ∀ x, pureL (f x) = true) (hu : pureL us = true) :
    (pureL ((((l.take k).flatMap f ++ (vs ++ (List.replicate (l.length - k - 1) us).flatten)).set (k * z + i) x).set (k * z + j) y) = true ∧ fillF f l (k + 1) us = (((l.take k).flatMap f ++ (vs ++ (List.replicate (l.length - k - 1) us).flatten)).set (k * z + i) x).set (k * z + j) y) ∨ p := by
  refine le_cells ?_ (fillF_pure hf hu)
  rw [set_mid (tkF_len hz h) hi, set_mid (tkF_len hz h) hj, fillF_next d h, hx]

/-! A node, its list in a new row. -/
def fnN {ι : Type} (t : TypeId) (args : ι → List AV) (pre : ι → Prop) (n : ι → Nd) : CSpec :=
  { ι := ι, inout := [], args := args, ins := fun _ => [], pre := pre, post := fun x r ic news => ic = [] ∧ r = .agg [.int .i64 (n x).op, .int .i64 (n x).a, .int .i64 (n x).b, .ref 0 0 0 (n x).l.length] ∧ news = [⟨0, t, 1, (n x).l.map (.int .i64)⟩] }
theorem callN_in {P : Program} {f : FuncId} {ι : Type} {t : TypeId} {args : ι → List AV} {pre : ι → Prop} {n : ι → Nd} (hs : Sound P f (fnN t args pre n)) (x : ι) (hpre : pre x) {env : List AV} {rows : List Row} {ctr low : Nat} {k : AV → St → Prop}
    (hk : k (.agg [.int .i64 (n x).op, .int .i64 (n x).a, .int .i64 (n x).b, .ref rows.length ctr 0 (n x).l.length]) ⟨env, rows ++ [⟨ctr, t, 1, (n x).l.map (.int .i64)⟩], ctr + 1, low⟩) : CallB P f ⟨env, rows, ctr, low⟩ (args x) k := callB_in (sp := fnN t args pre n) hs rfl x rfl hpre (by
  rintro r news ⟨-, rfl, rfl⟩
  rw [news_prot (protL_ints _ _)]
  simpa [AV.back, backL, backT, backV] using hk)
theorem retN {env : List AV} {rows : List Row} {ctr τ ver m : Nat} {t : TypeId} {a b c : Int} {zs : List Int} {n : Nd} (hr : rows[τ]? = some ⟨ver, t, 1, zs.map (.int .i64)⟩) (hm : m = zs.length) (hn : n = ⟨a, b, c, zs⟩) :
    RetB ⟨env, rows, ctr, 0⟩ [] (fun r ic news => ic = [] ∧ r = .agg [.int .i64 n.op, .int .i64 n.a, .int .i64 n.b, .ref 0 0 0 n.l.length] ∧ news = [⟨0, t, 1, n.l.map (.int .i64)⟩]) (.agg [.int .i64 a, .int .i64 b, .int .i64 c, .ref τ ver 0 m]) := by
  subst hm; subst hn
  refine retP1 (Q := fun r news => r = .agg [.int .i64 a, .int .i64 b, .int .i64 c, .ref 0 0 0 zs.length] ∧ news = [⟨0, t, 1, zs.map (.int .i64)⟩]) (L := [τ]) (by simp) ?_ ?_ ⟨rfl, rfl⟩
  · simp [insOf, hr, protL_ren (protL_ints _ _)]
  · simp [AV.ren, renL, hr]

/-! A row of elements, one of them turned. -/
theorem flat_set {α : Type} {f : α → List AV} {z : Nat} (hz : ∀ x, (f x).length = z) (d : α) {l : List α} {k j o : Nat} {u : AV} {y : α} (ho : o = k * z + j) (hk : k < l.length) (hj : j < z) (hy : f y = (f (l.getD k d)).set j u) : (l.flatMap f).set o u = (l.set k y).flatMap f := by
  have e : l = l.take k ++ ([l.getD k d] ++ l.drop (k + 1)) := by
    conv => lhs; rw [← List.take_append_drop k l]
    congr 1
    rw [List.drop_eq_getElem_cons hk]; simp [List.getD, List.getElem?_eq_getElem hk]
  have e1 : l.flatMap f = (l.take k).flatMap f ++ (f (l.getD k d) ++ (l.drop (k + 1)).flatMap f) := by
    conv => lhs; rw [e]
    simp [List.flatMap_append]
  have e2 : (l.set k y).flatMap f = (l.take k).flatMap f ++ (f y ++ (l.drop (k + 1)).flatMap f) := by
    conv => lhs; rw [e]
    rw [set_flat_aux (by rw [List.length_take]; omega)]
    simp [List.flatMap_append]
  rw [e1, e2, ho, set_mid (tkF_len hz hk) (by rw [hz]; exact hj), hy]
  where
  set_flat_aux {A B : List α} {x y : α} {k : Nat} (h : k = A.length) : (A ++ ([x] ++ B)).set k y = A ++ ([y] ++ B) := by
    subst h
    rw [List.set_append_right _ _ (Nat.le_refl _)]; simp
theorem getD_setG {α : Type} {d : α} {ws : List α} {k j : Nat} {z : α} (h : k < ws.length) : (ws.set k z).getD j d = if k = j then z else ws.getD j d := by
  simp only [List.getD, List.getElem?_set]
  by_cases e : k = j
  · subst e; simp [h]
  · simp [e]
theorem le_setC {α : Type} {f : α → AV} {l : List α} {o k : Nat} {r x : AV} {y : α} {p : Prop} (ho : o = k) (hx : x = f y) (hf : ∀ x, (f x).pure = true) : (pureL (((l.map f).set o r).set o x) = true ∧ (l.set k y).map f = ((l.map f).set o r).set o x) ∨ p := by
  subst ho
  refine le_cells ?_ (pureL_map hf _)
  rw [List.set_set, hx, List.map_set]
theorem get_setC {α : Type} {f : α → AV} {l : List α} {k : Nat} {r : AV} (h : k < l.length) : ((l.map f).set k r)[k]? = some r := by simp [h]
theorem get_oi_n {t : TypeId} {k : Nat} {xss : List (List Int)} {K : AV → Prop} (h : k < xss.length) (hK : K (ownI t (xss.getD k []))) : aGet ((xss.map (ownI t)).drop (0 + (k : Int).toNat * 1)) 0 K := get_map [] (by simp) h hK
theorem get_oi {t : TypeId} {i : Int} {xss : List (List Int)} {K : AV → Prop} (h : 0 ≤ i ∧ i < xss.length) (hK : K (ownI t (xss.getD i.toNat []))) : aGet ((xss.map (ownI t)).drop (0 + i.toNat * 1)) 0 K := get_map [] (by simp) (by omega) hK
theorem get_ond_n {t : TypeId} {k j : Nat} {ns : List Nd} {u : AV} {K : AV → Prop} (h : k < ns.length) (hj : (ndO t (ns.getD k default))[j]? = some u) (hK : K u) : aGet ((ns.flatMap (ndO t)).drop (0 + (k : Int).toNat * 4 + j)) 0 K := by
  rw [Nat.zero_add, Int.toNat_natCast]; exact get_flat0 (ndO_length t) default rfl h hj hK
theorem get_otn_n {t : TypeId} {k j : Nat} {ns : List T2} {u : AV} {K : AV → Prop} (h : k < ns.length) (hj : (tnO t (ns.getD k ([], [])))[j]? = some u) (hK : K u) : aGet ((ns.flatMap (tnO t)).drop (0 + (k : Int).toNat * 2 + j)) 0 K := by
  rw [Nat.zero_add, Int.toNat_natCast]; exact get_flat0 (tnO_length t) ([], []) rfl h hj hK
theorem set_one {cells : List AV} {o : Nat} {u : AV} {K : List AV → Prop} (h : o < cells.length) (hK : K (cells.set o u)) : aSet cells o [u] K := by
  unfold aSet
  have e : cells.take o ++ ([u] ++ cells.drop (o + [u].length)) = cells.set o u := by
    rw [List.set_eq_take_append_cons_drop, if_pos h]; rfl
  rw [e]; exact hK

/-! Calls that write into a row and leave it as one of many. -/
def fnMX {ι β : Type} (t : TypeId) (z : Nat) (n : ι → Nat) (cells : ι → List AV) (m : ι → Int) (pre : ι → Prop) (r : ι → Int) (q : ι → β → Prop) (out : β → List AV) : CSpec :=
  { ι := ι, inout := [true], args := fun x => [.ref 0 0 0 (n x), .int .i64 (m x)], ins := fun x => [⟨0, t, z, cells x⟩], pre := pre, post := fun x u ic news => u = .int .i64 (r x) ∧ (∃ y, q x y ∧ ic = [out y]) ∧ news = [] }
theorem callMX_in {P : Program} {f : FuncId} {ι β : Type} {t : TypeId} {z : Nat} {n : ι → Nat} {cells : ι → List AV} {m : ι → Int} {pre : ι → Prop} {r : ι → Int} {q : ι → β → Prop} {out : β → List AV} (hs : Sound P f (fnMX t z n cells m pre r q out)) (x : ι) (hpre : pre x) (hp : protL (cells x) = true) (hp' : ∀ y, protL (out y) = true) {env : List AV} {rows : List Row} {ctr low τ ver n1 : Nat} {i : Int} {k : AV → St → Prop}
    (hr : rows[τ]? = some ⟨ver, t, z, cells x⟩) (hn : n1 = n x) (hi : i = m x) (hk : ∀ y, q x y → k (.int .i64 (r x)) ⟨env, setRows rows [τ] [out y], ctr + 1, low⟩) :
    CallG P f ⟨env, rows, ctr, low⟩ [.ref τ ver 0 n1, .int .i64 i] k := by
  subst hn; subst hi
  refine .inr ⟨[τ], _, hs, [.ref 0 0 0 (n x), .int .i64 (m x)], [⟨0, t, z, cells x⟩], by simp, ?_, ?_, x, rfl, rfl, hpre, ?_⟩
  · have e1 : callArg ⟨env, rows, ctr, low⟩ [τ] true (.ref τ ver 0 (n x)) = some (.ref 0 0 0 (n x)) := by
      simp [callArg, AV.ren, hr]
    show (callArg ⟨env, rows, ctr, low⟩ [τ] true (.ref τ ver 0 (n x))).bind _ = _
    rw [e1]
    rfl
  · simp [insOf, hr, protL_ren hp]
  · rintro u ic news ⟨rfl, ⟨y, hq, rfl⟩, rfl⟩ _
    show k (.int .i64 (r x)) ⟨env, setRows rows [τ] [backL _ [τ] (out y)] ++ [], ctr + 1, low⟩
    rw [List.append_nil, protL_back (hp' y)]; exact hk y hq
theorem retMX {β : Type} {env : List AV} {ctr : Nat} {t : TypeId} {z : Nat} {cells cells1 : List AV} {ver : Nat} {rest : List Row} {i i' : Int} {q : β → Prop} {out : β → List AV} (y : β) (hq : q y) (hp : protL cells1 = true) (e : i = i') (hc : cells1 = out y) :
    RetB ⟨env, ⟨ver, t, z, cells1⟩ :: rest, ctr, 1⟩ [⟨0, t, z, cells⟩] (fun u ic news => u = .int .i64 i' ∧ (∃ y, q y ∧ ic = [out y]) ∧ news = []) (.int .i64 i) := by
  subst e; subst hc
  refine RetB1.ret ⟨[], [⟨0, t, z, out y⟩], .int .i64 i, [out y], [], (show ([0] : List Nat).Nodup by decide), ?_, rfl, rfl, rfl, rfl, ⟨y, hq, rfl⟩, rfl⟩
  show insOf _ [0] [0] = _
  simp [insOf, protL_ren hp]

/-! Nodes in a row: a field written. -/
theorem ond_fit {t : TypeId} {k j : Nat} {L : List Nd} (h : k < L.length) (hj : j + 1 ≤ 4) : 0 + (k : Int).toNat * 4 + j + 1 ≤ (L.flatMap (ndO t)).length := by
  rw [flat_len (ndO_length t), Int.toNat_natCast]; omega
theorem set_ond {t : TypeId} {k j : Nat} {u : AV} {L : List Nd} {K : List AV → Prop} (h : k < L.length) (hj : j < 3) (hu : ∃ v, u = .int .i64 v) (hK : ∀ L' : List Nd, L'.length = L.length → (L'.getD k default).l.length = (L.getD k default).l.length → (∀ i, (L'.getD i default).l.length = (L.getD i default).l.length) → K (L'.flatMap (ndO t))) : aSet (L.flatMap (ndO t)) (0 + (k : Int).toNat * 4 + j) [u] K := by
  obtain ⟨v, rfl⟩ := hu
  refine set_one (by have := ond_fit (t := t) (j := j) h (by omega); omega) ?_
  have key : ∀ y : Nd, y.l = (L.getD k default).l → ndO t y = (ndO t (L.getD k default)).set j (.int .i64 v) → K ((L.flatMap (ndO t)).set (0 + (k : Int).toNat * 4 + j) (.int .i64 v)) := fun y hy hs => by
    rw [flat_set (ndO_length t) default (by rw [Nat.zero_add, Int.toNat_natCast]) h (by omega) hs]
    have hall : ∀ i, ((L.set k y).getD i default).l.length = (L.getD i default).l.length := fun i => by
      rw [getD_setG h]
      split
      · rename_i e; rw [hy, e]
      · rfl
    exact hK _ (by simp) (hall k) hall
  rcases Nat.lt_or_ge j 1 with h0 | h0
  · have : j = 0 := by omega
    subst this; exact key ⟨v, (L.getD k default).a, (L.getD k default).b, (L.getD k default).l⟩ rfl rfl
  · rcases Nat.lt_or_ge j 2 with h1 | h1
    · have : j = 1 := by omega
      subst this; exact key ⟨(L.getD k default).op, v, (L.getD k default).b, (L.getD k default).l⟩ rfl rfl
    · have : j = 2 := by omega
      subst this; exact key ⟨(L.getD k default).op, (L.getD k default).a, v, (L.getD k default).l⟩ rfl rfl
theorem get_setF {t : TypeId} {k j : Nat} {L : List Nd} {r : AV} (h : k < L.length) (hj : j + 1 ≤ 4) : ((L.flatMap (ndO t)).set (0 + (k : Int).toNat * 4 + j) r)[0 + (k : Int).toNat * 4 + j]? = some r := by
  have := ond_fit (t := t) h hj
  rw [List.getElem?_set_self (by omega)]
theorem le_setN {t : TypeId} {k : Nat} {L : List Nd} {r x : AV} {xs : List Int} {p : Prop} (h : k < L.length) (hx : x = ownI t xs) :
    (pureL (((L.flatMap (ndO t)).set (0 + (k : Int).toNat * 4 + 3) r).set (0 + (k : Int).toNat * 4 + 3) x) = true ∧ (L.set k ⟨(L.getD k default).op, (L.getD k default).a, (L.getD k default).b, xs⟩).flatMap (ndO t) = ((L.flatMap (ndO t)).set (0 + (k : Int).toNat * 4 + 3) r).set (0 + (k : Int).toNat * 4 + 3) x) ∨ p := by
  refine le_cells ?_ (pureL_flat (ndO_pure t) _)
  rw [List.set_set, hx]
  exact flat_set (ndO_length t) default (by rw [Nat.zero_add, Int.toNat_natCast]) h (by omega) rfl
end Go.Am
