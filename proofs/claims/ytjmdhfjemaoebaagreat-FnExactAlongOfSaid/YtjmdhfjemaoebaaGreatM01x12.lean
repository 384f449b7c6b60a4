import Derived.Test.YtjmdhfjemaoebaaGreatM01x11
import Derived.Test.YtjmdhfjemaoebaaGreatRows
namespace Go.Am
open Go.RowKit
def fillC {α : Type} (f : α → AV) (l : List α) (k : Nat) (u : AV) : List AV := (l.take k).map f ++ List.replicate (l.length - k) u
def fillF {α : Type} (f : α → List AV) (l : List α) (k : Nat) (us : List AV) : List AV := (l.take k).flatMap f ++ (List.replicate (l.length - k) us).flatten
theorem fillC_length {α : Type} {f : α → AV} {l : List α} {k : Nat} {u : AV} (h : k ≤ l.length) : (fillC f l k u).length = l.length := by
  simp [fillC]; omega
theorem rep_length : ∀ (n : Nat) (us : List AV), ((List.replicate n us).flatten).length = n * us.length
  | 0, us => by simp
  | n + 1, us => by rw [List.replicate_succ, List.flatten_cons, List.length_append, rep_length n us, Nat.add_mul, Nat.one_mul, Nat.add_comm]
theorem fillF_length {α : Type} {f : α → List AV} {z : Nat} (hz : ∀ x, (f x).length = z) {l : List α} {k : Nat} {us : List AV} (hu : us.length = z) (h : k ≤ l.length) : (fillF f l k us).length = l.length * z := by
  unfold fillF
  rw [List.length_append, flat_len hz, rep_length, hu, List.length_take, Nat.min_eq_left h, ← Nat.add_mul]
  congr 1; omega
theorem set_app {A us vs B : List AV} {off : Nat} {K : List AV → Prop} (ho : off = A.length) (hl : us.length = vs.length) (hK : K (A ++ (us ++ B))) : aSet (A ++ (vs ++ B)) off us K := by
  unfold aSet
  subst ho
  have e : (A ++ (vs ++ B)).take A.length = A := List.take_left
  have e' : (A ++ (vs ++ B)).drop (A.length + us.length) = B := by
    rw [← List.drop_drop, List.drop_left, hl, List.drop_left]
  rw [e, e']
  exact hK
theorem rep_cons {k n : Nat} (us : List AV) (h : k < n) : (List.replicate (n - k) us).flatten = us ++ (List.replicate (n - k - 1) us).flatten := by
  obtain ⟨m, hm⟩ : ∃ m, n - k = m + 1 := ⟨n - k - 1, by omega⟩
  rw [hm, List.replicate_succ, List.flatten_cons]
  simp
theorem rep_cons1 {k n : Nat} (u : AV) (h : k < n) : List.replicate (n - k) u = [u] ++ List.replicate (n - k - 1) u := by
  obtain ⟨m, hm⟩ : ∃ m, n - k = m + 1 := ⟨n - k - 1, by omega⟩
  rw [hm, List.replicate_succ]
  simp
theorem set_fillC {α : Type} {f : α → AV} {l : List α} {k off : Nat} {u v : AV} {K : List AV → Prop} (h : k < l.length) (ho : off = k) (hK : forceV0 v fun v => K ((l.take k).map f ++ ([v] ++ List.replicate (l.length - k - 1) u))) : aSet (fillC f l k u) off [v] K := by
  rw [forceV0_eq] at hK
  unfold fillC
  rw [rep_cons1 u h]
  refine set_app ?_ rfl hK
  rw [ho, List.length_map, List.length_take]; omega
theorem set_fillF {α : Type} {f : α → List AV} {z : Nat} (hz : ∀ x, (f x).length = z) {l : List α} {k : Nat} {us vs : List AV} {K : List AV → Prop} (h : k < l.length) (hl : vs.length = us.length) (hK : forceL vs fun vs => K ((l.take k).flatMap f ++ (vs ++ (List.replicate (l.length - k - 1) us).flatten))) : aSet (fillF f l k us) (0 + (k : Int).toNat * z) vs K := by
  rw [forceL_eq] at hK
  unfold fillF
  rw [rep_cons us h]
  refine set_app ?_ hl hK
  rw [Nat.zero_add, Int.toNat_natCast, flat_len hz, List.length_take, Nat.min_eq_left (Nat.le_of_lt h)]
theorem set_mid {A us B : List AV} {o i : Nat} {x : AV} (ho : o = A.length + i) (hi : i < us.length) : (A ++ (us ++ B)).set o x = A ++ (us.set i x ++ B) := by
  subst ho
  rw [List.set_append_right _ _ (by omega), Nat.add_sub_cancel_left, List.set_append_left _ _ hi]
theorem get_mid {A us B : List AV} {o i : Nat} {x : AV} (ho : o = A.length + i) (hx : us[i]? = some x) : (A ++ (us ++ B))[o]? = some x := by
  subst ho
  rw [List.getElem?_append_right (by omega), Nat.add_sub_cancel_left, List.getElem?_append_left (List.getElem?_eq_some_iff.1 hx).1]
  exact hx
theorem take_succ_map {α : Type} {f : α → AV} {l : List α} (d : α) {k : Nat} (h : k < l.length) : (l.take (k + 1)).map f = (l.take k).map f ++ [f (l.getD k d)] := by
  rw [List.take_add_one, List.map_append, getD_eq (d := d) h]; rfl
theorem take_succ_flat {α : Type} {f : α → List AV} {l : List α} (d : α) {k : Nat} (h : k < l.length) : (l.take (k + 1)).flatMap f = (l.take k).flatMap f ++ f (l.getD k d) := by
  rw [List.take_add_one, List.flatMap_append, getD_eq (d := d) h]; simp
theorem fillC_next {α : Type} {f : α → AV} {l : List α} (d : α) {k : Nat} {u : AV} (h : k < l.length) : fillC f l (k + 1) u = (l.take k).map f ++ ([f (l.getD k d)] ++ List.replicate (l.length - k - 1) u) := by
  unfold fillC
  rw [take_succ_map d h, List.append_assoc, Nat.sub_sub]
theorem fillF_next {α : Type} {f : α → List AV} {l : List α} (d : α) {k : Nat} {us : List AV} (h : k < l.length) : fillF f l (k + 1) us = (l.take k).flatMap f ++ (f (l.getD k d) ++ (List.replicate (l.length - k - 1) us).flatten) := by
  unfold fillF
  rw [take_succ_flat d h, List.append_assoc, Nat.sub_sub]
theorem fillC_all {α : Type} {f : α → AV} {l : List α} {k : Nat} {u : AV} (h : k = l.length) : fillC f l k u = l.map f := by
  subst h; simp [fillC]
theorem fillF_all {α : Type} {f : α → List AV} {l : List α} {k : Nat} {us : List AV} (h : k = l.length) : fillF f l k us = l.flatMap f := by
  subst h; simp [fillF]
theorem pureL_rep (u : AV) (h : u.pure = true) : ∀ (n : Nat), pureL (List.replicate n u) = true
  | 0 => rfl
  | n + 1 => by rw [List.replicate_succ]; show (u.pure && pureL (List.replicate n u)) = true; rw [h, pureL_rep u h n]; rfl
theorem pureL_repF (us : List AV) (h : pureL us = true) : ∀ (n : Nat), pureL ((List.replicate n us).flatten) = true
  | 0 => rfl
  | n + 1 => by rw [List.replicate_succ, List.flatten_cons]; exact pureL_app h (pureL_repF us h n)
theorem fillC_pure {α : Type} {f : α → AV} {l : List α} {k : Nat} {u : AV} (hf : ∀ x, (f x).pure = true) (hu : u.pure = true) : pureL (fillC f l k u) = true := pureL_app (pureL_map hf _) (pureL_rep u hu _)
theorem fillF_pure {α : Type} {f : α → List AV} {l : List α} {k : Nat} {us : List AV} (hf : ∀ x, pureL (f x) = true) (hu : pureL us = true) : pureL (fillF f l k us) = true := pureL_app (pureL_flat hf _) (pureL_repF us hu _)
theorem le_cells {cs cs' : List AV} {p : Prop} (h : cs = cs') (hp : pureL cs' = true) : (pureL cs = true ∧ cs' = cs) ∨ p := .inl ⟨by rw [h]; exact hp, h.symm⟩
theorem le_fillC {α : Type} {f : α → AV} {l : List α} {u : AV} {p : Prop} (hf : ∀ x, (f x).pure = true) (hu : u.pure = true) : (pureL (rep (l.length : Int).toNat [u]) = true ∧ fillC f l 0 u = rep (l.length : Int).toNat [u]) ∨ p :=
  le_cells (by simp [rep, fillC]) (fillC_pure hf hu)
theorem le_fillF {α : Type} {f : α → List AV} {l : List α} {u v : AV} {us : List AV} {p : Prop} (hf : ∀ x, pureL (f x) = true) (hu : pureL (u :: v :: us) = true) : (pureL (rep (l.length : Int).toNat (u :: v :: us)) = true ∧ fillF f l 0 (u :: v :: us) = rep (l.length : Int).toNat (u :: v :: us)) ∨ p :=
  le_cells (by simp [rep, fillF]) (fillF_pure hf hu)
theorem tk_len {α : Type} {f : α → AV} {l : List α} {k : Nat} (h : k < l.length) : k = ((l.take k).map f).length := by rw [List.length_map, List.length_take]; omega
theorem tkF_len {α : Type} {f : α → List AV} {z : Nat} (hz : ∀ x, (f x).length = z) {l : List α} {k i : Nat} (h : k < l.length) : k * z + i = ((l.take k).flatMap f).length + i := by rw [flat_len hz, List.length_take, Nat.min_eq_left (Nat.le_of_lt h)]
theorem get_fillC {α : Type} {f : α → AV} {l : List α} {k : Nat} {v : AV} {B : List AV} (h : k < l.length) : ((l.take k).map f ++ ([v] ++ B))[k]? = some v := get_mid (i := 0) (tk_len h) rfl
theorem get_fillF {α : Type} {f : α → List AV} {z : Nat} (hz : ∀ x, (f x).length = z) {l : List α} {k i : Nat} {v : AV} {vs B : List AV} (h : k < l.length) (hv : vs[i]? = some v) : ((l.take k).flatMap f ++ (vs ++ B))[k * z + i]? = some v := get_mid (i := i) (tkF_len hz h) hv
theorem get_fillF2 {α : Type} {f : α → List AV} {z : Nat} (hz : ∀ x, (f x).length = z) {l : List α} {k i j : Nat} {v x : AV} {vs B : List AV} (h : k < l.length) (hj : j < vs.length) (hv : (vs.set j x)[i]? = some v) : (((l.take k).flatMap f ++ (vs ++ B)).set (k * z + j) x)[k * z + i]? = some v := by
  rw [set_mid (tkF_len hz h) hj]; exact get_mid (i := i) (tkF_len hz h) hv
theorem le_closeC {α : Type} {f : α → AV} {l : List α} (d : α) {k : Nat} {u v x : AV} {p : Prop} (h : k < l.length) (hx : x = f (l.getD k d)) (hf : ∀ x, (f x).pure = true) (hu : u.pure = true) :
    (pureL (((l.take k).map f ++ ([v] ++ List.replicate (l.length - k - 1) u)).set k x) = true ∧ fillC f l (k + 1) u = ((l.take k).map f ++ ([v] ++ List.replicate (l.length - k - 1) u)).set k x) ∨ p := by
  refine le_cells ?_ (fillC_pure hf hu)
  rw [set_mid (i := 0) (tk_len h) (by simp), fillC_next d h, hx]; rfl
theorem le_closeF {α : Type} {f : α → List AV} {z : Nat} (hz : ∀ x, (f x).length = z) {l : List α} (d : α) {k i : Nat} {us vs : List AV} {x : AV} {p : Prop} (h : k < l.length) (hi : i < vs.length) (hx : vs.set i x = f (l.getD k d)) (hf : ∀ x, pureL (f x) = true) (hu : pureL us = true) :
    (pureL (((l.take k).flatMap f ++ (vs ++ (List.replicate (l.length - k - 1) us).flatten)).set (k * z + i) x) = true ∧ fillF f l (k + 1) us = ((l.take k).flatMap f ++ (vs ++ (List.replicate (l.length - k - 1) us).flatten)).set (k * z + i) x) ∨ p := by
  refine le_cells ?_ (fillF_pure hf hu)
  rw [set_mid (tkF_len hz h) hi, fillF_next d h, hx]
theorem le_closeF2 {α : Type} {f : α → List AV} {z : Nat} (hz : ∀ x, (f x).length = z) {l : List α} (d : α) {k i j : Nat} {us vs : List AV} {x y : AV} {p : Prop} (h : k < l.length) (hi : i < vs.length) (hj : j < (vs.set i x).length) (hx : (vs.set i x).set j y = f (l.getD k d)) (hf : ∀ x, pureL (f x) = true) (hu : pureL us = true) :
    (pureL ((((l.take k).flatMap f ++ (vs ++ (List.replicate (l.length - k - 1) us).flatten)).set (k * z + i) x).set (k * z + j) y) = true ∧ fillF f l (k + 1) us = (((l.take k).flatMap f ++ (vs ++ (List.replicate (l.length - k - 1) us).flatten)).set (k * z + i) x).set (k * z + j) y) ∨ p := by
  refine le_cells ?_ (fillF_pure hf hu)
  rw [set_mid (tkF_len hz h) hi, set_mid (tkF_len hz h) hj, fillF_next d h, hx]
def fnN {ι : Type} (t : TypeId) (args : ι → List AV) (pre : ι → Prop) (n : ι → Nd) : CSpec :=
  { ι := ι, inout := [], args := args, ins := fun _ => [], pre := pre, post := fun x r ic news => ic = [] ∧ r = .agg [.int .i64 (n x).op, .int .i64 (n x).a, .int .i64 (n x).b, .ref 0 0 0 (n x).l.length] ∧ news = [⟨0, t, 1, (n x).l.map (.int .i64)⟩] }
theorem callN_in {P : Program} {f : FuncId} {ι : Type} {t : TypeId} {args : ι → List AV} {pre : ι → Prop} {n : ι → Nd} (hs : Sound P f (fnN t args pre n)) (x : ι) (hpre : pre x) {env : List AV} {rows : List Row} {ctr low : Nat} {k : AV → St → Prop}
    (hk : k (.agg [.int .i64 (n x).op, .int .i64 (n x).a, .int .i64 (n x).b, .ref rows.length ctr 0 (n x).l.length]) ⟨env, rows ++ [⟨ctr, t, 1, (n x).l.map (.int .i64)⟩], ctr + 1, low⟩) : CallB P f ⟨env, rows, ctr, low⟩ (args x) k := callB_in (sp := fnN t args pre n) hs rfl x rfl hpre (by
  rintro r news ⟨-, rfl, rfl⟩
  rw [news_prot (protL_ints _ _)]
  simpa [AV.back, backL, backT, backV] using hk)
theorem retN {env : List AV} {rows : List Row} {ctr τ ver m : Nat} {t : TypeId} {a b c : Int} {zs : List Int} {n : Nd} (hr : rows[τ]? = some ⟨ver, t, 1, zs.map (.int .i64)⟩) (hm : m = zs.length) (hn : n = ⟨a, b, c, zs⟩) :
    RetB ⟨env, rows, ctr, 0⟩ [] (fun r ic news => ic = [] ∧ r = .agg [.int .i64 n.op, .int .i64 n.a, .int .i64 n.b, .ref 0 0 0 n.l.length] ∧ news = [⟨0, t, 1, n.l.map (.int .i64)⟩]) (.agg [.int .i64 a, .int .i64 b, .int .i64 c, .ref τ ver 0 m]) := by
  subst hm; subst hn
  refine retP1 (Q := fun r news => r = .agg [.int .i64 a, .int .i64 b, .int .i64 c, .ref 0 0 0 zs.length] ∧ news = [⟨0, t, 1, zs.map (.int .i64)⟩]) (L := [τ]) (by simp) ?_ ?_ ⟨rfl, rfl⟩
  · simp [insOf, hr, protL_ren (protL_ints _ _)]
  · simp [AV.ren, renL, hr]
theorem flat_set {α : Type} {f : α → List AV} {z : Nat} (hz : ∀ x, (f x).length = z) (d : α) {l : List α} {k j o : Nat} {u : AV} {y : α} (ho : o = k * z + j) (hk : k < l.length) (hj : j < z) (hy : f y = (f (l.getD k d)).set j u) : (l.flatMap f).set o u = (l.set k y).flatMap f := by
  have e : l = l.take k ++ ([l.getD k d] ++ l.drop (k + 1)) := by
    conv => lhs; rw [← List.take_append_drop k l]
    congr 1
    rw [List.drop_eq_getElem_cons hk]; simp [List.getD, List.getElem?_eq_getElem hk]
  have e1 : l.flatMap f = (l.take k).flatMap f ++ (f (l.getD k d) ++ (l.drop (k + 1)).flatMap f) := by
    conv => lhs; rw [e]
    simp [List.flatMap_append]
  have e2 : (l.set k y).flatMap f = (l.take k).flatMap f ++ (f y ++ (l.drop (k + 1)).flatMap f) := by
    conv => lhs; rw [e]
    rw [set_flat_aux (by rw [List.length_take]; omega)]
    simp [List.flatMap_append]
  rw [e1, e2, ho, set_mid (tkF_len hz hk) (by rw [hz]; exact hj), hy]
  where
  set_flat_aux {A B : List α} {x y : α} {k : Nat} (h : k = A.length) : (A ++ ([x] ++ B)).set k y = A ++ ([y] ++ B) := by
    subst h
    rw [List.set_append_right _ _ (Nat.le_refl _)]; simp
theorem getD_setG {α : Type} {d : α} {ws : List α} {k j : Nat} {z : α} (h : k < ws.length) : (ws.set k z).getD j d = if k = j then z else ws.getD j d := by
  simp only [List.getD, List.getElem?_set]
  by_cases e : k = j
  · subst e; simp [h]
  · simp [e]
theorem le_setC {α : Type} {f : α → AV} {l : List α} {o k : Nat} {r x : AV} {y : α} {p : Prop} (ho : o = k) (hx : x = f y) (hf : ∀ x, (f x).pure = true) : (pureL (((l.map f).set o r).set o x) = true ∧ (l.set k y).map f = ((l.map f).set o r).set o x) ∨ p := by
  subst ho
  refine le_cells ?_ (pureL_map hf _)
  rw [List.set_set, hx, List.map_set]
theorem get_setC {α : Type} {f : α → AV} {l : List α} {k : Nat} {r : AV} (h : k < l.length) : ((l.map f).set k r)[k]? = some r := by simp [h]
theorem get_oi_n {t : TypeId} {k : Nat} {xss : List (List Int)} {K : AV → Prop} (h : k < xss.length) (hK : K (ownI t (xss.getD k []))) : aGet ((xss.map (ownI t)).drop (0 + (k : Int).toNat * 1)) 0 K := get_map [] (by simp) h hK
theorem get_oi {t : TypeId} {i : Int} {xss : List (List Int)} {K : AV → Prop} (h : 0 ≤ i ∧ i < xss.length) (hK : K (ownI t (xss.getD i.toNat []))) : aGet ((xss.map (ownI t)).drop (0 + i.toNat * 1)) 0 K := get_map [] (by simp) (by omega) hK
theorem get_ond_n {t : TypeId} {k j : Nat} {ns : List Nd} {u : AV} {K : AV → Prop} (h : k < ns.length) (hj : (ndO t (ns.getD k default))[j]? = some u) (hK : K u) : aGet ((ns.flatMap (ndO t)).drop (0 + (k : Int).toNat * 4 + j)) 0 K := by
  rw [Nat.zero_add, Int.toNat_natCast]; exact get_flat0 (ndO_length t) default rfl h hj hK
theorem get_otn_n {t : TypeId} {k j : Nat} {ns : List T2} {u : AV} {K : AV → Prop} (h : k < ns.length) (hj : (tnO t (ns.getD k ([], [])))[j]? = some u) (hK : K u) : aGet ((ns.flatMap (tnO t)).drop (0 + (k : Int).toNat * 2 + j)) 0 K := by
  rw [Nat.zero_add, Int.toNat_natCast]; exact get_flat0 (tnO_length t) ([], []) rfl h hj hK
theorem set_one {cells : List AV} {o : Nat} {u : AV} {K : List AV → Prop} (h : o < cells.length) (hK : K (cells.set o u)) : aSet cells o [u] K := by
  unfold aSet
  have e : cells.take o ++ ([u] ++ cells.drop (o + [u].length)) = cells.set o u := by
    rw [List.set_eq_take_append_cons_drop, if_pos h]; rfl
  rw [e]; exact hK
def fnMX {ι β : Type} (t : TypeId) (z : Nat) (n : ι → Nat) (cells : ι → List AV) (m : ι → Int) (pre : ι → Prop) (r : ι → Int) (q : ι → β → Prop) (out : β → List AV) : CSpec :=
  { ι := ι, inout := [true], args := fun x => [.ref 0 0 0 (n x), .int .i64 (m x)], ins := fun x => [⟨0, t, z, cells x⟩], pre := pre, post := fun x u ic news => u = .int .i64 (r x) ∧ (∃ y, q x y ∧ ic = [out y]) ∧ news = [] }
theorem callMX_in {P : Program} {f : FuncId} {ι β : Type} {t : TypeId} {z : Nat} {n : ι → Nat} {cells : ι → List AV} {m : ι → Int} {pre : ι → Prop} {r : ι → Int} {q : ι → β → Prop} {out : β → List AV} (hs : Sound P f (fnMX t z n cells m pre r q out)) (x : ι) (hpre : pre x) (hp : protL (cells x) = true) (hp' : ∀ y, protL (out y) = true) {env : List AV} {rows : List Row} {ctr low τ ver n1 : Nat} {i : Int} {k : AV → St → Prop}
    (hr : rows[τ]? = some ⟨ver, t, z, cells x⟩) (hn : n1 = n x) (hi : i = m x) (hk : ∀ y, q x y → k (.int .i64 (r x)) ⟨env, setRows rows [τ] [out y], ctr + 1, low⟩) :
    CallG P f ⟨env, rows, ctr, low⟩ [.ref τ ver 0 n1, .int .i64 i] k := by
  subst hn; subst hi
  refine .inr ⟨[τ], _, hs, [.ref 0 0 0 (n x), .int .i64 (m x)], [⟨0, t, z, cells x⟩], by simp, ?_, ?_, x, rfl, rfl, hpre, ?_⟩
  · have e1 : callArg ⟨env, rows, ctr, low⟩ [τ] true (.ref τ ver 0 (n x)) = some (.ref 0 0 0 (n x)) := by
      simp [callArg, AV.ren, hr]
    show (callArg ⟨env, rows, ctr, low⟩ [τ] true (.ref τ ver 0 (n x))).bind _ = _
    rw [e1]
    rfl
  · simp [insOf, hr, protL_ren hp]
  · rintro u ic news ⟨rfl, ⟨y, hq, rfl⟩, rfl⟩ _
    show k (.int .i64 (r x)) ⟨env, setRows rows [τ] [backL _ [τ] (out y)] ++ [], ctr + 1, low⟩
    rw [List.append_nil, protL_back (hp' y)]; exact hk y hq
theorem retMX {β : Type} {env : List AV} {ctr : Nat} {t : TypeId} {z : Nat} {cells cells1 : List AV} {ver : Nat} {rest : List Row} {i i' : Int} {q : β → Prop} {out : β → List AV} (y : β) (hq : q y) (hp : protL cells1 = true) (e : i = i') (hc : cells1 = out y) :
    RetB ⟨env, ⟨ver, t, z, cells1⟩ :: rest, ctr, 1⟩ [⟨0, t, z, cells⟩] (fun u ic news => u = .int .i64 i' ∧ (∃ y, q y ∧ ic = [out y]) ∧ news = []) (.int .i64 i) := by
  subst e; subst hc
  refine RetB1.ret ⟨[], [⟨0, t, z, out y⟩], .int .i64 i, [out y], [], (show ([0] : List Nat).Nodup by decide), ?_, rfl, rfl, rfl, rfl, ⟨y, hq, rfl⟩, rfl⟩
  show insOf _ [0] [0] = _
  simp [insOf, protL_ren hp]
theorem ond_fit {t : TypeId} {k j : Nat} {L : List Nd} (h : k < L.length) (hj : j + 1 ≤ 4) : 0 + (k : Int).toNat * 4 + j + 1 ≤ (L.flatMap (ndO t)).length := by
  rw [flat_len (ndO_length t), Int.toNat_natCast]; omega
theorem set_ond {t : TypeId} {k j : Nat} {u : AV} {L : List Nd} {K : List AV → Prop} (h : k < L.length) (hj : j < 3) (hu : ∃ v, u = .int .i64 v) (hK : ∀ L' : List Nd, L'.length = L.length → (L'.getD k default).l.length = (L.getD k default).l.length → (∀ i, (L'.getD i default).l.length = (L.getD i default).l.length) → K (L'.flatMap (ndO t))) : aSet (L.flatMap (ndO t)) (0 + (k : Int).toNat * 4 + j) [u] K := by
  obtain ⟨v, rfl⟩ := hu
  refine set_one (by have := ond_fit (t := t) (j := j) h (by omega); omega) ?_
  have key : ∀ y : Nd, y.l = (L.getD k default).l → ndO t y = (ndO t (L.getD k default)).set j (.int .i64 v) → K ((L.flatMap (ndO t)).set (0 + (k : Int).toNat * 4 + j) (.int .i64 v)) := fun y hy hs => by
    rw [flat_set (ndO_length t) default (by rw [Nat.zero_add, Int.toNat_natCast]) h (by omega) hs]
    have hall : ∀ i, ((L.set k y).getD i default).l.length = (L.getD i default).l.length := fun i => by
      rw [getD_setG h]
      split
      · rename_i e; rw [hy, e]
      · rfl
    exact hK _ (by simp) (hall k) hall
  rcases Nat.lt_or_ge j 1 with h0 | h0
  · have : j = 0 := by omega
    subst this; exact key ⟨v, (L.getD k default).a, (L.getD k default).b, (L.getD k default).l⟩ rfl rfl
  · rcases Nat.lt_or_ge j 2 with h1 | h1
    · have : j = 1 := by omega
      subst this; exact key ⟨(L.getD k default).op, v, (L.getD k default).b, (L.getD k default).l⟩ rfl rfl
    · have : j = 2 := by omega
      subst this; exact key ⟨(L.getD k default).op, (L.getD k default).a, v, (L.getD k default).l⟩ rfl rfl
theorem get_setF {t : TypeId} {k j : Nat} {L : List Nd} {r : AV} (h : k < L.length) (hj : j + 1 ≤ 4) : ((L.flatMap (ndO t)).set (0 + (k : Int).toNat * 4 + j) r)[0 + (k : Int).toNat * 4 + j]? = some r := by
  have := ond_fit (t := t) h hj
  rw [List.getElem?_set_self (by omega)]
theorem le_setN {t : TypeId} {k : Nat} {L : List Nd} {r x : AV} {xs : List Int} {p : Prop} (h : k < L.length) (hx : x = ownI t xs) :
    (pureL (((L.flatMap (ndO t)).set (0 + (k : Int).toNat * 4 + 3) r).set (0 + (k : Int).toNat * 4 + 3) x) = true ∧ (L.set k ⟨(L.getD k default).op, (L.getD k default).a, (L.getD k default).b, xs⟩).flatMap (ndO t) = ((L.flatMap (ndO t)).set (0 + (k : Int).toNat * 4 + 3) r).set (0 + (k : Int).toNat * 4 + 3) x) ∨ p := by
  refine le_cells ?_ (pureL_flat (ndO_pure t) _)
  rw [List.set_set, hx]
  exact flat_set (ndO_length t) default (by rw [Nat.zero_add, Int.toNat_natCast]) h (by omega) rfl
end Go.Am
namespace Go.Proofs.YtjmdhfjemaoebaaGreat
set_option maxRecDepth 20000
open Go.RowKit Go.Am
set_option linter.unusedSimpArgs false
attribute [local irreducible] aPlan aGet aIf aLoop aCall RetB NextB
@[reducible] def inB (n lo hi : Int) : Bool := decide (lo ≤ n ∧ n ≤ hi)
def sIn : CSpec := fnS (ι := Int × Int × Int) (fun | (n, lo, hi) => [.int .i64 n, .int .i64 lo, .int .i64 hi]) (fun _ => True) (fun | (n, lo, hi) => .bool (decide (lo ≤ n ∧ n ≤ hi)))
set_option maxRecDepth 10000 in
theorem in_sound : Sound Tryz.prog 93 sIn := by
  refine sound_of Tryz.func93 rfl (enters_of Tryz.func93 (by kernel_rfl) (by kernel_rfl)) ?_
  rintro ⟨n, lo, hi⟩ -
  conv => whnf
  repeat' (first
    | ((first | refine aIf_t ?_ | refine aIf_f ?_ | refine append_same ?_); conv => whnf) | refine aIf_eqt ?_
    | (refine aIf_dec (fun _ => ?_) (fun _ => ?_) <;> conv => whnf))
  all_goals (refine retS rfl (congrArg AV.bool ?_); simp; omega)
theorem in_call {n lo hi : Int} {env : List AV} {rows : List Row} {ctr low : Nat} {k : AV → St → Prop} (h : k (.bool (decide (lo ≤ n ∧ n ≤ hi))) ⟨env, rows, ctr + 1, low⟩) : CallB Tryz.prog 93 ⟨env, rows, ctr, low⟩ [.int .i64 n, .int .i64 lo, .int .i64 hi] k :=
  callS_in in_sound (n, lo, hi) trivial rfl h
def okSize (z : Int) : Bool := decide (1 ≤ z) && decide (z ≤ 4)
def shapeOk (zs : List Int) : Bool := decide (zs.length ≤ 3) && zs.all okSize
def sShapeOk : CSpec := fnS (ι := Nat × List Int) (fun | (c, zs) => [.sl c zs.length (zs.map (.int .i64))]) (fun _ => True) (fun | (_, zs) => .bool (shapeOk zs))
theorem all_iff (p : Int → Bool) (zs : List Int) : zs.all p = true ↔ ∀ j, j < zs.length → p (zs.getD j 0) = true := by
  rw [List.all_eq_true]
  constructor
  · intro h j hj
    exact h _ (by simp [List.getD, List.getElem?_eq_getElem hj])
  · intro h x hx
    obtain ⟨j, hj, rfl⟩ := List.mem_iff_getElem.1 hx
    simpa [List.getD, List.getElem?_eq_getElem hj] using h j hj
theorem shapeOk_iff (zs : List Int) : shapeOk zs = true ↔ zs.length ≤ 3 ∧ ∀ j, j < zs.length → okSize (zs.getD j 0) = true := by
  unfold shapeOk
  rw [Bool.and_eq_true, all_iff, decide_eq_true_iff]
theorem shapeOk_t {zs : List Int} (h3 : zs.length ≤ 3) (h : ∀ j, j < zs.length → okSize (zs.getD j 0) = true) : shapeOk zs = true := (shapeOk_iff zs).2 ⟨h3, h⟩
theorem shapeOk_f {zs : List Int} {k : Nat} (hk : k < zs.length) (h : okSize (zs.getD k 0) = false) : shapeOk zs = false := by
  rw [← Bool.not_eq_true, shapeOk_iff]; intro h'; rw [h'.2 k hk] at h; cases h
theorem shapeOk_f3 {zs : List Int} (h : 3 < zs.length) : shapeOk zs = false := by
  rw [← Bool.not_eq_true, shapeOk_iff]; intro h'; omega
theorem okSize_iff (z : Int) : okSize z = true ↔ 1 ≤ z ∧ z ≤ 4 := by unfold okSize; simp
theorem okSize_f {z : Int} (h : z < 1 ∨ 4 < z) : okSize z = false := by rw [← Bool.not_eq_true, okSize_iff]; omega
theorem okSize_step {zs : List Int} {k : Nat} (h : ∀ j, j < k → okSize (zs.getD j 0) = true) (h' : okSize (zs.getD k 0) = true) : ∀ j, j < k + 1 → okSize (zs.getD j 0) = true := fun j hj => by
  rcases Nat.lt_succ_iff_lt_or_eq.1 hj with h1 | rfl
  · exact h j h1
  · exact h'
attribute [local irreducible] CallB CallG aCut aSet aAppend
def btw (zs : List Int) (lo hi : Int) : Bool := zs.all fun z => decide (lo ≤ z ∧ z ≤ hi)
theorem btw_iff (zs : List Int) (lo hi : Int) : btw zs lo hi = true ↔ ∀ j, j < zs.length → lo ≤ zs.getD j 0 ∧ zs.getD j 0 ≤ hi := by
  unfold btw
  rw [all_iff]
  simp only [decide_eq_true_iff]
theorem btw_t {zs : List Int} {lo hi : Int} (h : ∀ j, j < zs.length → lo ≤ zs.getD j 0 ∧ zs.getD j 0 ≤ hi) : btw zs lo hi = true := (btw_iff _ _ _).2 h
theorem btw_f {zs : List Int} {lo hi : Int} {k : Nat} (hk : k < zs.length) (h : zs.getD k 0 < lo ∨ hi < zs.getD k 0) : btw zs lo hi = false := by
  rw [← Bool.not_eq_true, btw_iff]; intro h'; have := h' k hk; omega
theorem btw_14 (zs : List Int) : btw zs 1 4 = zs.all okSize := by
  unfold btw; congr 1; funext z; unfold okSize; exact Bool.decide_and _ _
theorem allBetween_sound : Sound Tryz.prog 114 (fnS (ι := Nat × List Int × Int × Int) (fun | (c, zs, lo, hi) => [.sl c zs.length (zs.map (.int .i64)), .int .i64 lo, .int .i64 hi]) (fun _ => True) (fun | (_, zs, lo, hi) => .bool (btw zs lo hi))) := by
  refine sound_of Tryz.func114 rfl (enters_of Tryz.func114 (by kernel_rfl) (by kernel_rfl)) ?_
  rintro ⟨c, zs, lo, hi⟩ -
  have hmax : maxLen = 9223372036854775807 := rfl
  conv => whnf
  repeat' (first
    | ((first | refine fun (_ : _ ≤ maxLen) => ?_ | refine append_same ?_); conv => whnf))
  refine loop_u (ι := Nat) [false, true, true, false, false, false, false, false, false, true, true, true, false, false, false, false, false, false, false, false, false, false, false, false] (fun k => [(11, .int .i64 k)]) (fun _ => []) (fun k => k ≤ zs.length ∧ ∀ j, j < k → lo ≤ zs.getD j 0 ∧ zs.getD j 0 ≤ hi) (fun k => zs.length - k) (0) ⟨Nat.zero_le _, fun j hj => absurd hj (Nat.not_lt_zero _)⟩ ?_ ?_
  · conv => whnf
    repeat' (first
      | exact trivial | exact rfl
      | exact pureL_ints _ _ | refine And.intro ?_ ?_
      | exact Nat.le_of_ble_eq_true rfl)
  · rintro k ⟨hk, hall⟩
    have hk : k ≤ zs.length := hk
    have hall : ∀ j, j < k → lo ≤ zs.getD j 0 ∧ zs.getD j 0 ≤ hi := hall
    conv => whnf
    repeat' (first
      | ((first | refine aIf_t ?_ | refine aIf_f ?_ | refine get_nat (by omega) ?_ | refine And.intro (by omega) ?_ | refine append_same ?_); conv => whnf) | refine aIf_eqf ?_
      | (refine aIf_dec (fun _ => ?_) (fun _ => ?_) <;> conv => whnf))
    all_goals (first
      | exact retS rfl (congrArg AV.bool (btw_f (k := k) (by omega) (by omega)).symm)
      | exact retS rfl (congrArg AV.bool (btw_t (fun j hj => hall j (by omega))).symm)
      | skip)
    refine next_u (k + 1) (show zs.length - (k + 1) < zs.length - k by omega) ⟨(by omega : k + 1 ≤ zs.length), fun j hj => ?_⟩ ?_
    · rcases Nat.lt_succ_iff_lt_or_eq.1 hj with h1 | rfl
      · exact hall j h1
      · omega
    · conv => whnf
      repeat' (first
        | exact trivial | exact rfl
        | exact pureL_ints _ _ | refine And.intro ?_ ?_
        | exact Nat.le_of_ble_eq_true rfl | exact int_eq (by rw [IntWalk.i64_in _ (by omega)] <;> omega))
theorem allBetween_call {c : Nat} {zs : List Int} {lo hi : Int} {env : List AV} {rows : List Row} {ctr low : Nat} {k : AV → St → Prop} (hpre : True) (h : k (.bool (btw zs lo hi)) ⟨env, rows, ctr + 1, low⟩) :
    CallB Tryz.prog 114 ⟨env, rows, ctr, low⟩ [.sl c zs.length (zs.map (.int .i64)), .int .i64 lo, .int .i64 hi] k := callS_in allBetween_sound (c, zs, lo, hi) hpre rfl h
theorem indexOk_sound : Sound Tryz.prog 90 (fnS (ι := Int × Int) (fun | (i, n) => [.int .i64 i, .int .i64 n]) (fun _ => True) (fun | (i, n) => .bool (decide (0 ≤ i ∧ i < n)))) := by
  refine sound_of Tryz.func90 rfl (enters_of Tryz.func90 (by kernel_rfl) (by kernel_rfl)) ?_
  rintro ⟨i, n⟩ -
  conv => whnf
  repeat' (first
    | ((first | refine aIf_t ?_ | refine aIf_f ?_ | refine append_same ?_); conv => whnf) | refine aIf_eqt ?_
    | (refine aIf_dec (fun _ => ?_) (fun _ => ?_) <;> conv => whnf))
  all_goals refine retS rfl (congrArg AV.bool (Bool.eq_iff_iff.2 ?_))
  all_goals simp only [decide_eq_true_eq, beq_iff_eq, bne_iff_ne, ne_eq, true_iff, false_iff, Bool.false_eq_true]
  all_goals (try unfold okSize)
  all_goals (try unfold okSize)
  all_goals omega
theorem indexOk_call {i n : Int} {env : List AV} {rows : List Row} {ctr low : Nat} {k : AV → St → Prop} (hpre : True) (h : k (.bool (decide (0 ≤ i ∧ i < n))) ⟨env, rows, ctr + 1, low⟩) :
    CallB Tryz.prog 90 ⟨env, rows, ctr, low⟩ [.int .i64 i, .int .i64 n] k := callS_in indexOk_sound (i, n) hpre rfl h
set_option maxRecDepth 10000 in
theorem iShapeOk_sound : Sound Tryz.prog 156 sShapeOk := by
  refine sound_of Tryz.func156 rfl (enters_of Tryz.func156 (by kernel_rfl) (by kernel_rfl)) ?_
  rintro ⟨c, zs⟩ -
  have e := btw_14 zs
  by_cases h3 : zs.length ≤ 3
  · have h : shapeOk zs = btw zs 1 4 := by unfold shapeOk; rw [e, decide_eq_true h3, Bool.true_and]
    conv => whnf
    repeat' (first
      | ((first | refine aIf_t ?_ | refine aIf_f ?_ | refine fun (_ : _ ≤ maxLen) => ?_ | refine callG_t ?_ | refine allBetween_call trivial ?_ | refine append_same ?_ | refine And.intro (pureL_ints _ _) ?_); conv => whnf) | refine aIf_eqt ?_
      | (refine aIf_dec (fun _ => ?_) (fun _ => ?_) <;> conv => whnf))
    all_goals (first | (exfalso; omega) | exact retS rfl (congrArg AV.bool h.symm))
  · conv => whnf
    repeat' (first
      | ((first | refine aIf_t ?_ | refine aIf_f ?_ | refine fun (_ : _ ≤ maxLen) => ?_ | refine And.intro (by omega) ?_ | refine callG_t ?_ | refine allBetween_call trivial ?_ | refine append_same ?_); conv => whnf) | refine aIf_eqt ?_
      | (refine aIf_dec (fun _ => ?_) (fun _ => ?_) <;> conv => whnf))
    all_goals (first | (exfalso; omega) | exact retS rfl (congrArg AV.bool (by rw [shapeOk_f3 (by omega)])))
set_option maxRecDepth 10000 in
theorem sShapeOk_sound : Sound Tryz.prog 94 sShapeOk := by
  refine sound_of Tryz.func94 rfl (enters_of Tryz.func94 (by kernel_rfl) (by kernel_rfl)) ?_
  rintro ⟨c, zs⟩ -
  conv => whnf
  repeat' (first
    | (refine append_same ?_; conv => whnf))
  refine loop_in (ι := Nat) (fun k => ⟨[.sl c zs.length (zs.map (.int .i64)), .un, .bool false, .int .i64 k, .un, .un, .un, .un, .un, .un, .un, .un, .un, .un, .un, .un, .un, .un, .un], [], 1, 0⟩)
    (fun k => k ≤ zs.length ∧ ∀ j, j < k → okSize (zs.getD j 0) = true) (fun k => zs.length - k) 0 ⟨Nat.zero_le _, fun j hj => by omega⟩ ?_ ?_
  · repeat' (first
      | exact trivial | exact rfl
      | exact pureL_ints _ _ | refine And.intro ?_ ?_
      | exact Nat.le_of_ble_eq_true rfl)
  · rintro k ⟨hk, hall⟩
    conv => whnf
    repeat' (first
      | ((first | refine fun (_ : _ ≤ maxLen) => ?_ | refine get_nat (by omega) ?_ | refine And.intro (by omega) ?_ | refine callG_t ?_ | refine append_same ?_ | refine in_call ?_); conv => whnf) | refine aIf_not ?_
      | (refine aIf_dec (fun _ => ?_) (fun _ => ?_) <;> conv => whnf))
    · refine next_in (k + 1) (by omega) ⟨by omega, okSize_step hall ((okSize_iff _).2 (by omega))⟩ ?_
      have hmax : maxLen = 9223372036854775807 := rfl
      repeat' (first
        | exact trivial | exact rfl
        | exact pureL_ints _ _ | refine And.intro ?_ ?_
        | exact Nat.le_of_ble_eq_true rfl | exact int_eq (by rw [IntWalk.i64_in _ (by omega)] <;> omega))
    · exact retS rfl (congrArg AV.bool (by rw [shapeOk_f (k := k) (by omega) (okSize_f (by omega))]))
    · refine retS rfl (bool_eq ?_)
      rw [shapeOk_iff, decide_eq_true_iff]
      exact ⟨fun h => ⟨by omega, fun j hj => hall j (by omega)⟩, fun h => by omega⟩
theorem sShapeOk_call {c : Nat} {zs : List Int} {env : List AV} {rows : List Row} {ctr low : Nat} {k : AV → St → Prop} (h : k (.bool (shapeOk zs)) ⟨env, rows, ctr + 1, low⟩) : CallB Tryz.prog 94 ⟨env, rows, ctr, low⟩ [.sl c zs.length (zs.map (.int .i64))] k :=
  callS_in sShapeOk_sound (c, zs) trivial rfl h
theorem iShapeOk_call {c : Nat} {zs : List Int} {env : List AV} {rows : List Row} {ctr low : Nat} {k : AV → St → Prop} (h : k (.bool (shapeOk zs)) ⟨env, rows, ctr + 1, low⟩) : CallB Tryz.prog 156 ⟨env, rows, ctr, low⟩ [.sl c zs.length (zs.map (.int .i64))] k :=
  callS_in iShapeOk_sound (c, zs) trivial rfl h
def sToIntS : CSpec := fnL 3 (ι := Nat × List Int) (fun | (c, zs) => [.sl c zs.length (zs.map (.int .i64))]) (fun | (_, zs) => zs.length ≤ 1048576) (fun | (_, zs) => zs)
set_option maxRecDepth 10000 in
theorem toIntS_sound : Sound Tryz.prog 69 sToIntS := by
  refine sound_of Tryz.func69 rfl (enters_of Tryz.func69 (by kernel_rfl) (by kernel_rfl)) ?_
  rintro ⟨c, zs⟩ hpre
  have hpre : zs.length ≤ 1048576 := hpre
  conv => whnf
  repeat' (first
    | ((first | refine fun (_ : _ ≤ maxLen) => ?_ | refine And.intro (And.intro (Int.le_refl _) (And.intro (by kernel_rfl) (And.intro rfl (by kernel_rfl)))) (And.intro (And.intro (by omega) (And.intro (bytes_le (b := 8) rfl (by omega)) (by omega))) ?_) | refine append_same ?_); conv => whnf))
  refine loop_in (ι := Nat × List Int) (fun | (k, ws) => ⟨[.sl c zs.length (zs.map (.int .i64)), .un, .un, .ref 1 2 0 zs.length, .int .i64 k, .un, .un, .un, .un, .un, .un, .un, .un, .un, .un, .un, .un, .un, .un, .un, .un, .un], [⟨1, 3, 1, []⟩, ⟨2, 3, 1, ws.map (.int .i64)⟩], 3, 0⟩)
    (fun | (k, ws) => k ≤ zs.length ∧ ws.length = zs.length ∧ ∀ j, j < k → ws.getD j 0 = zs.getD j 0) (fun x => zs.length - x.1) (0, List.replicate zs.length 0) ⟨Nat.zero_le _, by simp, fun j hj => by omega⟩ ?_ ?_
  · repeat' (first
      | exact trivial | exact rfl
      | exact pureL_ints _ _ | exact Or.inl (And.intro rfl rfl)
      | exact le_ints (rep_ints _ _) | refine And.intro ?_ ?_
      | exact Nat.le_of_ble_eq_true rfl)
  · rintro ⟨k, ws⟩ ⟨hk, hl, hall⟩
    conv => whnf
    repeat' (first
      | ((first | refine fun (_ : _ ≤ maxLen) => ?_ | refine get_nat (by omega) ?_ | refine And.intro (by omega) ?_ | refine append_same ?_ | refine And.intro rfl (And.intro rfl (And.intro (by first | omega | (rw [List.length_map]; omega)) ?_)) | refine set_nat ?_ (by omega)); conv => whnf) | (refine aIf_dec (fun _ => ?_) (fun _ => ?_) <;> conv => whnf))
    · refine next_in (k + 1, ws.set k (zs.getD k 0)) (show zs.length - (k + 1) < zs.length - k by omega) ⟨by omega, by simpa using hl, fun j hj => ?_⟩ ?_
      · rw [getD_set (by omega)]
        split
        · rename_i e; rw [e]
        · exact hall j (by omega)
      · repeat' (first
          | exact trivial | exact rfl
          | exact pureL_ints _ _ | exact Or.inl (And.intro rfl rfl)
          | exact le_ints rfl | refine And.intro ?_ ?_
          | exact Nat.le_of_ble_eq_true rfl | exact int_eq (by rw [IntWalk.i64_in _ (by omega)] <;> omega))
    · have e : ws = zs := getD_ext hl fun j hj => hall j (by omega)
      subst e
      exact retL rfl rfl rfl rfl
def sEqIntS : CSpec := fnS (ι := Nat × List Int × Nat × List Int) (fun | (c, xs, d, ys) => [.sl c xs.length (xs.map (.int .i64)), .sl d ys.length (ys.map (.int .i64))]) (fun _ => True) (fun | (_, xs, _, ys) => .bool (decide (xs = ys)))
set_option maxRecDepth 10000 in
theorem eqIntS_sound : Sound Tryz.prog 60 sEqIntS := by
  refine sound_of Tryz.func60 rfl (enters_of Tryz.func60 (by kernel_rfl) (by kernel_rfl)) ?_
  rintro ⟨c, xs, d, ys⟩ -
  conv => whnf
  repeat' (first
    | ((first | refine plan_in (id := 6) [0, 1, 2, 3, 4, 5, 6, 7, 8] (by kernel_rfl) (by kernel_rfl) ?_ | refine fun (_ : _ ≤ maxLen) => ?_ | refine append_same ?_); conv => whnf) | refine aIf_not ?_
    | (refine aIf_dec (fun _ => ?_) (fun _ => ?_) <;> conv => whnf))
  · have hl : ys.length = xs.length := by omega
    refine loop_in (ι := Nat) (fun k => ⟨[.sl c xs.length (xs.map (.int .i64)), .sl d ys.length (ys.map (.int .i64)), .un, .un, .bool false, .int .i64 k, .un, .un, .un, .un, .un, .un, .un, .un, .un, .un, .un, .un, .un, .un, .un, .un, .un, .un, .un, .un], [], 1, 0⟩)
      (fun k => k ≤ xs.length ∧ ∀ j, j < k → xs.getD j 0 = ys.getD j 0) (fun k => xs.length - k) 0 ⟨Nat.zero_le _, fun j hj => by omega⟩ ?_ ?_
    · repeat' (first
        | exact trivial | exact rfl
        | exact pureL_ints _ _ | refine And.intro ?_ ?_
        | exact Nat.le_of_ble_eq_true rfl)
    · rintro k ⟨hk, hall⟩
      conv => whnf
      repeat' (first
        | ((first | refine plan_in (id := 6) [0, 1, 2, 3, 4, 5, 6, 7, 8] (by kernel_rfl) (by kernel_rfl) ?_ | refine fun (_ : _ ≤ maxLen) => ?_ | refine get_nat (by omega) ?_ | refine And.intro (by omega) ?_ | refine append_same ?_); conv => whnf) | refine aIf_not ?_
        | (refine aIf_dec (fun _ => ?_) (fun _ => ?_) <;> conv => whnf))
      · refine next_in (k + 1) (by omega) ⟨by omega, fun j hj => ?_⟩ ?_
        · rcases Nat.lt_succ_iff_lt_or_eq.1 hj with h1 | rfl
          · exact hall j h1
          · assumption
        · have hmax : maxLen = 9223372036854775807 := rfl
          repeat' (first
            | exact trivial | exact rfl
            | exact pureL_ints _ _ | refine And.intro ?_ ?_
            | exact Nat.le_of_ble_eq_true rfl | exact int_eq (by rw [IntWalk.i64_in _ (by omega)] <;> omega))
      · refine retS rfl (congrArg AV.bool ?_)
        symm; rw [decide_eq_false_iff_not]; rintro rfl; contradiction
      · refine retS rfl (congrArg AV.bool ?_)
        symm; rw [decide_eq_true_iff]
        exact getD_ext (by omega) fun j hj => hall j (by omega)
  · refine retS rfl (congrArg AV.bool ?_)
    symm; rw [decide_eq_false_iff_not]; rintro rfl; omega
theorem toIntS_call {c : Nat} {zs : List Int} {env : List AV} {rows : List Row} {ctr low : Nat} {k : AV → St → Prop} (hpre : zs.length ≤ 1048576) (h : k (.ref rows.length ctr 0 zs.length) ⟨env, rows ++ [⟨ctr, 3, 1, zs.map (.int .i64)⟩], ctr + 1, low⟩) :
    CallB Tryz.prog 69 ⟨env, rows, ctr, low⟩ [.sl c zs.length (zs.map (.int .i64))] k :=
  callL_in toIntS_sound (c, zs) hpre h
theorem eqIntS_call {c d : Nat} {xs ys : List Int} {env : List AV} {rows : List Row} {ctr low : Nat} {k : AV → St → Prop} (h : k (.bool (decide (xs = ys))) ⟨env, rows, ctr + 1, low⟩) :
    CallB Tryz.prog 60 ⟨env, rows, ctr, low⟩ [.sl c xs.length (xs.map (.int .i64)), .sl d ys.length (ys.map (.int .i64))] k :=
  callS_in eqIntS_sound (c, xs, d, ys) trivial rfl h
end Go.Proofs.YtjmdhfjemaoebaaGreat
namespace Go.Proofs.YtjmdhfjemaoebaaGreat
set_option maxRecDepth 20000
open Go.RowKit Go.Am
set_option linter.unusedSimpArgs false
attribute [local irreducible] aPlan aGet aIf aLoop aCall RetB NextB CallB CallG aCut aSet aAppend
def lsP (x : Nd) : Prop := ((x.op = 7 ∨ x.op = 11) → (x.l.length : Int) = 1) ∧ (x.op = 10 → (x.l.length : Int) = 3) ∧ (x.op ≠ 7 ∧ x.op ≠ 11 ∧ x.op ≠ 10 ∧ x.op ≠ 8 ∧ x.op ≠ 9 → (x.l.length : Int) = 0)
instance (x : Nd) : Decidable (lsP x) := by unfold lsP; infer_instance
def pcN (op : Int) : Int := if op = 0 ∨ op = 1 then 0 else if 6 ≤ op ∧ op ≤ 10 then 1 else 2
theorem pcN_0 {op : Int} (h : op = 0 ∨ op = 1) : pcN op = 0 := if_pos h
theorem pcN_1 {op : Int} (h : 6 ≤ op ∧ op ≤ 10) : pcN op = 1 := by unfold pcN; rw [if_neg (by omega), if_pos h]
theorem pcN_2 {op : Int} (h : ¬ (op = 0 ∨ op = 1)) (h' : ¬ (6 ≤ op ∧ op ≤ 10)) : pcN op = 2 := by unfold pcN; rw [if_neg h, if_neg h']
theorem pcN_cases (op : Int) : (pcN op = 0 ∧ (op = 0 ∨ op = 1)) ∨ (pcN op = 1 ∧ (6 ≤ op ∧ op ≤ 10)) ∨ (pcN op = 2 ∧ ¬ (op = 0 ∨ op = 1) ∧ ¬ (6 ≤ op ∧ op ≤ 10)) := by
  by_cases h : op = 0 ∨ op = 1
  · exact .inl ⟨pcN_0 h, h⟩
  · by_cases h' : 6 ≤ op ∧ op ≤ 10
    · exact .inr (.inl ⟨pcN_1 h', h'⟩)
    · exact .inr (.inr ⟨pcN_2 h h', h, h'⟩)
def formP (x : Nd) (k n : Int) : Prop := (0 ≤ x.op ∧ x.op ≤ 12) ∧ lsP x ∧ ((x.op ≤ 1 ∨ (6 ≤ x.op ∧ x.op ≤ 10)) → x.b = 0) ∧ (x.op = 0 → 0 ≤ x.a ∧ x.a < n) ∧ (x.op = 1 → -9 ≤ x.a ∧ x.a ≤ 9) ∧ (2 ≤ x.op → 0 ≤ x.a ∧ x.a < k) ∧ (((2 ≤ x.op ∧ x.op ≤ 5) ∨ 11 ≤ x.op) → 0 ≤ x.b ∧ x.b < k)
instance (x : Nd) (k n : Int) : Decidable (formP x k n) := by unfold formP; infer_instance
theorem listOk_sound : Sound Tryz.prog 189 (fnS (ι := Nat × Nd) (fun | (c, x) => [.agg [.int .i64 x.op, .int .i64 x.a, .int .i64 x.b, .sl c x.l.length (x.l.map (.int .i64))]]) (fun _ => True) (fun | (_, x) => .bool (decide (lsP x)))) := by
  refine sound_of Tryz.func189 rfl (enters_of Tryz.func189 (by kernel_rfl) (by kernel_rfl)) ?_
  rintro ⟨c, x⟩ -
  conv => whnf
  repeat' (first
    | ((first | refine fun (_ : _ ≤ maxLen) => ?_ | refine aGet_in rfl ?_ | refine And.intro rfl (And.intro (List.cons_ne_nil _ _) ?_) | refine append_same ?_); conv => whnf) | (refine aIf_dec (fun _ => ?_) (fun _ => ?_) <;> conv => whnf))
  all_goals refine retS rfl (congrArg AV.bool (Bool.eq_iff_iff.2 ?_))
  all_goals simp only [decide_eq_true_eq, beq_iff_eq, bne_iff_ne, ne_eq, true_iff, false_iff, Bool.false_eq_true]
  all_goals (try unfold lsP)
  all_goals (try unfold lsP)
  all_goals omega
theorem listOk_call {c : Nat} {x : Nd} {env : List AV} {rows : List Row} {ctr low : Nat} {k : AV → St → Prop} (hpre : True) (h : k (.bool (decide (lsP x))) ⟨env, rows, ctr + 1, low⟩) :
    CallB Tryz.prog 189 ⟨env, rows, ctr, low⟩ [.agg [.int .i64 x.op, .int .i64 x.a, .int .i64 x.b, .sl c x.l.length (x.l.map (.int .i64))]] k := callS_in listOk_sound (c, x) hpre rfl h
theorem partCount_sound : Sound Tryz.prog 131 (fnS (ι := Int) (fun op => [.int .i64 op]) (fun _ => True) (fun op => .int .i64 (pcN op))) := by
  refine sound_of Tryz.func131 rfl (enters_of Tryz.func131 (by kernel_rfl) (by kernel_rfl)) ?_
  intro (op : Int) _
  have h := pcN_cases op
  conv => whnf
  repeat' (first
    | (refine append_same ?_; conv => whnf) | (refine aIf_dec (fun _ => ?_) (fun _ => ?_) <;> conv => whnf))
  all_goals exact retS rfl (int_eq (by omega))
theorem partCount_call {op : Int} {env : List AV} {rows : List Row} {ctr low : Nat} {k : AV → St → Prop} (hpre : True) (h : k (.int .i64 (pcN op)) ⟨env, rows, ctr + 1, low⟩) :
    CallB Tryz.prog 131 ⟨env, rows, ctr, low⟩ [.int .i64 op] k := callS_in partCount_sound op hpre rfl h
theorem partsOf_sound : Sound Tryz.prog 116 (fnR (ι := Nat × Nd) 3 1 (fun | (c, x) => [.agg [.int .i64 x.op, .int .i64 x.a, .int .i64 x.b, .sl c x.l.length (x.l.map (.int .i64))]]) (fun _ => True) (fun | (_, x) => (pcN x.op).toNat) (fun | (_, x) => ([x.a, x.b] : List Int).map (.int .i64))) := by
  refine sound_of Tryz.func116 rfl (enters_of Tryz.func116 (by kernel_rfl) (by kernel_rfl)) ?_
  rintro ⟨c, x⟩ -
  have h := pcN_cases x.op
  conv => whnf
  repeat' (first
    | ((first | refine aGet_in rfl ?_ | refine And.intro (by omega) ?_ | refine And.intro rfl (And.intro (List.cons_ne_nil _ _) ?_) | refine callG_t ?_ | refine append_same ?_ | refine partCount_call trivial ?_ | refine And.intro (And.intro (by kernel_rfl) (And.intro rfl (Nat.le_of_ble_eq_true rfl))) ?_); conv => whnf))
  exact retR rfl rfl rfl rfl
theorem partsOf_call {c : Nat} {x : Nd} {env : List AV} {rows : List Row} {ctr low : Nat} {k : AV → St → Prop} (h : k (.ref rows.length ctr 0 (pcN x.op).toNat) ⟨env, rows ++ [⟨ctr, 3, 1, ([x.a, x.b] : List Int).map (.int .i64)⟩], ctr + 1, low⟩) :
    CallB Tryz.prog 116 ⟨env, rows, ctr, low⟩ [.agg [.int .i64 x.op, .int .i64 x.a, .int .i64 x.b, .sl c x.l.length (x.l.map (.int .i64))]] k := callR_in partsOf_sound (c, x) trivial (protL_ints _ _) h
set_option maxHeartbeats 4000000 in
theorem nodeOk_sound : Sound Tryz.prog 173 (fnS (ι := Nat × List (List Int) × List Nd × Nat) (fun | (c, xss, ns, k) => [.agg [.sl c xss.length (xss.map (slI c)), .sl c ns.length (ns.flatMap (ndC c))], .int .i64 k]) (fun | (_, _, ns, k) => k < ns.length) (fun | (_, xss, ns, k) => .bool (decide (formP (ns.getD k default) k xss.length)))) := by
  refine sound_of Tryz.func173 rfl (enters_of Tryz.func173 (by kernel_rfl) (by kernel_rfl)) ?_
  rintro ⟨c, xss, ns, k⟩ hpre
  have hk : k < ns.length := hpre
  have hmax : maxLen = 9223372036854775807 := rfl
  have hpc := pcN_cases (ns.getD k default).op
  clear hpre
  conv => whnf
  repeat' (first
    | ((first | refine aIf_t ?_ | refine aIf_f ?_ | refine fun (_ : _ ≤ maxLen) => ?_ | refine aGet_in rfl ?_ | refine And.intro (by omega) ?_ | refine load_same ?_ | refine And.intro rfl (And.intro (List.cons_ne_nil _ _) ?_) | refine And.intro (Nat.le_of_ble_eq_true rfl) ?_ | refine callG_t ?_ | refine indexOk_call trivial ?_ | refine append_same ?_ | refine part_nd_n (by omega) ?_ | refine listOk_call trivial ?_ | refine partCount_call trivial ?_ | refine partsOf_call ?_ | refine takeN_in ?_ | refine And.intro (pureL_ints _ _) ?_ | refine set_force ?_ | refine And.intro (by kernel_rfl) ?_); conv => whnf) | refine aIf_eqt ?_
    | refine aIf_eqf ?_ | refine aIf_not ?_
    | (refine aIf_dec (fun _ => ?_) (fun _ => ?_) <;> conv => whnf))
  all_goals (first | (refine retS rfl (congrArg AV.bool (Bool.eq_iff_iff.2 ?_)); simp only [decide_eq_true_eq, beq_iff_eq, bne_iff_ne, ne_eq, true_iff, false_iff, Bool.false_eq_true]; unfold formP; (try unfold lsP at *); omega) | skip)
  all_goals
    rename_i g0 g1
    refine loop_u (ι := Nat) [false, true, false, false, false, false, false, false, false, false, false, false, false, false, false, false, false, false, false, false, false, false, false, false, false, false, false, false, false, false, false, false, false, false, false, false, false, false, false, false, false, false, false, false, false, false, false, false, false, false, false, false, false, false, false, false, true, true, true, false, false, false, false, false, false, false, false] (fun j => [(58, .int .i64 j)]) (fun _ => []) (fun j => (j : Int) ≤ pcN (ns.getD k default).op ∧ ∀ i, i < j → 0 ≤ ([(ns.getD k default).a, (ns.getD k default).b] : List Int).getD i 0 ∧ ([(ns.getD k default).a, (ns.getD k default).b] : List Int).getD i 0 < k) (fun j => 2 - j) (0) ⟨by omega, fun j hj => absurd hj (Nat.not_lt_zero _)⟩ ?_ ?_
    · conv => whnf
      repeat' (first
        | exact trivial | exact rfl
        | exact pureL_ints _ _ | exact Or.inl (And.intro rfl rfl)
        | exact pureL_ii _ _ | exact pureL_nd _ _
        | refine Or.inr ?_ | refine And.intro ?_ ?_
        | exact Nat.le_of_ble_eq_true rfl)
    · rintro j ⟨hj, hall⟩
      have hj : (j : Int) ≤ pcN (ns.getD k default).op := hj
      have h0 : 0 < j → 0 ≤ (ns.getD k default).a ∧ (ns.getD k default).a < k := fun h => hall 0 h
      have h1 : 1 < j → 0 ≤ (ns.getD k default).b ∧ (ns.getD k default).b < k := fun h => hall 1 h
      have hlen : ([(ns.getD k default).a, (ns.getD k default).b] : List Int).length = 2 := rfl
      have e0 : j = 0 → ([(ns.getD k default).a, (ns.getD k default).b] : List Int).getD j 0 = (ns.getD k default).a := fun h => by rw [h]; rfl
      have e1 : j = 1 → ([(ns.getD k default).a, (ns.getD k default).b] : List Int).getD j 0 = (ns.getD k default).b := fun h => by rw [h]; rfl
      conv => whnf
      repeat' (first
        | ((first | refine get_nat0 (by omega) ?_ | refine And.intro (by omega) ?_ | refine callG_t ?_ | refine indexOk_call trivial ?_ | refine append_same ?_); conv => whnf) | refine aIf_not ?_
        | (refine aIf_dec (fun _ => ?_) (fun _ => ?_) <;> conv => whnf))
      all_goals (first | (refine retS rfl (congrArg AV.bool (Bool.eq_iff_iff.2 ?_)); simp only [decide_eq_true_eq, beq_iff_eq, bne_iff_ne, ne_eq, true_iff, false_iff, Bool.false_eq_true]; unfold formP; (try unfold lsP at *); omega) | skip)
      rename_i hlt hin
      refine next_u (j + 1) (show 2 - (j + 1) < 2 - j by omega) ⟨by omega, fun i hi => ?_⟩ ?_
      · rcases Nat.lt_succ_iff_lt_or_eq.1 hi with h | rfl
        · exact hall i h
        · exact hin
      · conv => whnf
        repeat' (first
          | exact trivial | exact rfl
          | exact pureL_ints _ _ | exact Or.inl (And.intro rfl rfl)
          | exact pureL_ii _ _ | exact pureL_nd _ _
          | refine Or.inr ?_ | refine And.intro ?_ ?_
          | exact Nat.le_of_ble_eq_true rfl | exact int_eq (by rw [IntWalk.i64_in _ (by omega)] <;> omega))
theorem nodeOk_call {c j : Nat} {xss : List (List Int)} {ns : List Nd} {env : List AV} {rows : List Row} {ctr low : Nat} {k : AV → St → Prop} (hpre : j < ns.length) (h : k (.bool (decide (formP (ns.getD j default) j xss.length))) ⟨env, rows, ctr + 1, low⟩) :
    CallB Tryz.prog 173 ⟨env, rows, ctr, low⟩ [.agg [.sl c xss.length (xss.map (slI c)), .sl c ns.length (ns.flatMap (ndC c))], .int .i64 j] k := callS_in nodeOk_sound (c, xss, ns, j) hpre rfl h
def insOk (xss : List (List Int)) : Prop := xss.length ≤ 3 ∧ ∀ j, j < xss.length → shapeOk (xss.getD j []) = true
instance (xss : List (List Int)) : Decidable (insOk xss) := by unfold insOk; infer_instance
theorem inputShapesOk_sound : Sound Tryz.prog 129 (fnS (ι := Nat × List (List Int)) (fun | (c, xss) => [.sl c xss.length (xss.map (slI c))]) (fun _ => True) (fun | (_, xss) => .bool (decide (insOk xss)))) := by
  refine sound_of Tryz.func129 rfl (enters_of Tryz.func129 (by kernel_rfl) (by kernel_rfl)) ?_
  rintro ⟨c, xss⟩ -
  have hmax : maxLen = 9223372036854775807 := rfl
  conv => whnf
  repeat' (first
    | ((first | refine fun (_ : _ ≤ maxLen) => ?_ | refine append_same ?_); conv => whnf) | (refine aIf_dec (fun _ => ?_) (fun _ => ?_) <;> conv => whnf))
  · exact retS rfl (congrArg AV.bool (decide_eq_false (fun h => by have := h.1; omega)).symm)
  · refine loop_u (ι := Nat) [false, false, false, false, false, false, false, false, true, true, true, false, false, false, false, false, false, false] (fun j => [(10, .int .i64 j)]) (fun _ => []) (fun j => j ≤ xss.length ∧ ∀ i, i < j → shapeOk (xss.getD i []) = true) (fun j => xss.length - j) (0) ⟨by omega, fun j hj => absurd hj (Nat.not_lt_zero _)⟩ ?_ ?_
    · conv => whnf
      repeat' (first
        | exact trivial | exact rfl
        | exact pureL_ii _ _ | refine And.intro ?_ ?_
        | exact Nat.le_of_ble_eq_true rfl)
    · rintro j ⟨hj, hall⟩
      have hj : j ≤ xss.length := hj
      conv => whnf
      repeat' (first
        | ((first | refine And.intro (by omega) ?_ | refine callG_t ?_ | refine append_same ?_ | refine get_ii_n (by omega) ?_ | refine And.intro (pureL_ints _ _) ?_ | refine iShapeOk_call ?_); conv => whnf) | refine aIf_not ?_
        | (refine aIf_dec (fun _ => ?_) (fun _ => ?_) <;> conv => whnf) | (refine aIf_in (fun _ => ?_) (fun _ => ?_) <;> conv => whnf))
      · rename_i hlt hs
        refine next_u (j + 1) (show xss.length - (j + 1) < xss.length - j by omega) ⟨by omega, fun i hi => ?_⟩ ?_
        · rcases Nat.lt_succ_iff_lt_or_eq.1 hi with h | rfl
          · exact hall i h
          · exact hs
        · conv => whnf
          repeat' (first
            | exact trivial | exact rfl
            | exact pureL_ii _ _ | refine And.intro ?_ ?_
            | exact Nat.le_of_ble_eq_true rfl | exact int_eq (by rw [IntWalk.i64_in _ (by omega)] <;> omega))
      · rename_i hlt hs
        exact retS rfl (congrArg AV.bool (decide_eq_false (fun h => by have := h.2 j (by omega); rw [this] at hs; cases hs)).symm)
      · exact retS rfl (congrArg AV.bool (decide_eq_true (⟨by omega, fun i hi => hall i (by omega)⟩ : insOk xss)).symm)
theorem inputShapesOk_call {c : Nat} {xss : List (List Int)} {env : List AV} {rows : List Row} {ctr low : Nat} {k : AV → St → Prop} (hpre : True) (h : k (.bool (decide (insOk xss))) ⟨env, rows, ctr + 1, low⟩) :
    CallB Tryz.prog 129 ⟨env, rows, ctr, low⟩ [.sl c xss.length (xss.map (slI c))] k := callS_in inputShapesOk_sound (c, xss) hpre rfl h
end Go.Proofs.YtjmdhfjemaoebaaGreat
