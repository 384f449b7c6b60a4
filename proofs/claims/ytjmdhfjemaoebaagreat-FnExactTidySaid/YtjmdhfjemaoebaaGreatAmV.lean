import Derived.Test.YtjmdhfjemaoebaaGreatM0x12
namespace Go.Am
open Go.RowKit
def maskE : List Bool → List AV → List AV
  | b :: bs, u :: us => (match b with | true => u | false => .un) :: maskE bs us
  | [], us => us
  | _ :: _, [] => []
def setsE : List (Nat × AV) → List AV → List AV
  | [], us => us
  | (i, u) :: xs, us => setsE xs (us.set i u)
def setsR : List (Nat × List AV) → List Row → List Row
  | [], rs => rs
  | (i, c) :: xs, rs => setsR xs (rs.modify i fun r => r.putC c)
def updS (s : St) (m : List Bool) (e : List (Nat × AV)) (r : List (Nat × List AV)) : St :=
  match s with
  | ⟨env, rows, ctr, low⟩ => ⟨setsE e (maskE m env), setsR r rows, ctr, low⟩
def forceE (us : List AV) (k : List AV → Prop) : Prop :=
  match us with
  | [] => k []
  | u :: us => forceV u fun u' => forceE us fun us' => k (u' :: us')
theorem forceE_eq : ∀ (us : List AV) (k : List AV → Prop), forceE us k = k us
  | [], k => rfl
  | u :: us, k => by unfold forceE; rw [forceV_eq, forceE_eq us]
def forceU (s : St) (k : St → Prop) : Prop :=
  match s with
  | ⟨env, rows, ctr, low⟩ => forceE env fun env' => forceR rows fun rows' => forceN ctr fun ctr' => forceN low fun low' => k ⟨env', rows', ctr', low'⟩
theorem forceU_eq (s : St) (k : St → Prop) : forceU s k = k s := by cases s; unfold forceU; simp only; rw [forceE_eq, forceR_eq, forceN_eq, forceN_eq]
theorem loop_ut {body : (Exit → St → Prop) → St → Prop} {Q : Exit → St → Prop} {s : St} {ι : Type} (msk : List Bool) (e : ι → List (Nat × AV)) (r : ι → List (Nat × List AV)) (p : ι → Prop) (m : ι → Nat) (x0 : ι) (hp : p x0)
    (h0 : forceU (updS s msk (e x0) (r x0)) fun s' => s.to s')
    (hr : ∀ x, p x → forceU (updS s msk (e x) (r x)) fun s' => body (aThen (NextB (fun x => updS s msk (e x) (r x)) p m (m x)) Q) s') : aLoop body Q s :=
  loop_to (fun x => updS s msk (e x) (r x)) p m x0 hp (by rw [forceU_eq] at h0; exact h0) fun x hx => by have := hr x hx; rw [forceU_eq] at this; exact this
theorem loop_u {body : (Exit → St → Prop) → St → Prop} {Q : Exit → St → Prop} {s : St} {ι : Type} (msk : List Bool) (e : ι → List (Nat × AV)) (r : ι → List (Nat × List AV)) (p : ι → Prop) (m : ι → Nat) (x0 : ι) (hp : p x0)
    (h0 : forceU (updS s msk (e x0) (r x0)) fun s' => s.le s')
    (hr : ∀ x, p x → forceU (updS s msk (e x) (r x)) fun s' => body (aThen (NextB (fun x => updS s msk (e x) (r x)) p m (m x)) Q) s') : aLoop body Q s :=
  loop_ut msk e r p m x0 hp (by rw [forceU_eq] at h0 ⊢; exact h0.to) hr
theorem next_u {ι : Type} {F : ι → St} {p : ι → Prop} {m : ι → Nat} {n : Nat} {s1 : St} (x : ι) (hm : m x < n) (hp : p x) (hle : forceU (F x) fun s2 => s1.le s2) : NextB F p m n s1 := next_in x hm hp (by rw [forceU_eq] at hle; exact hle)
theorem next_ut {ι : Type} {F : ι → St} {p : ι → Prop} {m : ι → Nat} {n : Nat} {s1 : St} (x : ι) (hm : m x < n) (hp : p x) (hle : forceU (F x) fun s2 => s1.to s2) : NextB F p m n s1 := next_to x hm hp (by rw [forceU_eq] at hle; exact hle)
structure Nd where
  op : Int
  a : Int
  b : Int
  l : List Int
  deriving DecidableEq, Inhabited
def slI (c : Nat) (xs : List Int) : AV := .sl c xs.length (xs.map (.int .i64))
def ownI (t : TypeId) (xs : List Int) : AV := .own t 1 xs.length (xs.map (.int .i64))
def ndC (c : Nat) (n : Nd) : List AV := [.int .i64 n.op, .int .i64 n.a, .int .i64 n.b, slI c n.l]
def ndO (t : TypeId) (n : Nd) : List AV := [.int .i64 n.op, .int .i64 n.a, .int .i64 n.b, ownI t n.l]
theorem ndC_length (c : Nat) (n : Nd) : (ndC c n).length = 4 := rfl
theorem ndO_length (t : TypeId) (n : Nd) : (ndO t n).length = 4 := rfl
theorem getD_eq {α : Type} {l : List α} {i : Nat} {d : α} (h : i < l.length) : l[i]? = some (l.getD i d) := by
  simp [List.getD, List.getElem?_eq_getElem h]
theorem flat_len {α : Type} {f : α → List AV} {z : Nat} (hz : ∀ x, (f x).length = z) : ∀ (l : List α), (l.flatMap f).length = l.length * z
  | [] => by simp
  | x :: l => by rw [List.flatMap_cons, List.length_append, hz, flat_len hz l, List.length_cons, Nat.add_mul, Nat.one_mul, Nat.add_comm]
theorem flat_drop {α : Type} {f : α → List AV} {z : Nat} (hz : ∀ x, (f x).length = z) (d : α) : ∀ (l : List α) (i : Nat), i < l.length → (l.flatMap f).drop (i * z) = f (l.getD i d) ++ (l.drop (i + 1)).flatMap f
  | x :: l, 0, _ => by simp
  | x :: l, i + 1, h => by
    have h' : i < l.length := by simpa using h
    have := flat_drop hz d l i h'
    have e : (i + 1) * z = (f x).length + i * z := by rw [hz, Nat.add_mul, Nat.one_mul, Nat.add_comm]
    rw [List.flatMap_cons, e, ← List.drop_drop, List.drop_left]
    simpa using this
theorem flatM_get {α : Type} {f : α → List AV} {z : Nat} (hz : ∀ x, (f x).length = z) (d : α) {l : List α} {i o j : Nat} {u : AV} (ho : o = i * z) (hi : i < l.length) (hj : (f (l.getD i d))[j]? = some u) : (l.flatMap f)[o + j]? = some u := by
  have h := flat_drop hz d l i hi
  rw [← List.getElem?_drop, ho, h, List.getElem?_append_left (List.getElem?_eq_some_iff.1 hj).1]
  exact hj
theorem get_map {α : Type} {f : α → AV} {l : List α} (d : α) {i o : Nat} {K : AV → Prop} (ho : o = i) (h : i < l.length) (hK : K (f (l.getD i d))) : aGet ((l.map f).drop o) 0 K :=
  ⟨_, by subst ho; rw [List.getElem?_drop, Nat.add_zero, List.getElem?_map, getD_eq (d := d) h]; rfl, hK⟩
theorem get_flat {α : Type} {f : α → List AV} {z : Nat} (hz : ∀ x, (f x).length = z) (d : α) {l : List α} {i o j : Nat} {u : AV} {K : AV → Prop} (ho : o = i * z) (hi : i < l.length) (hj : (f (l.getD i d))[j]? = some u) (hK : K u) : aGet (((l.flatMap f).drop o).drop j) 0 K :=
  ⟨u, by rw [List.getElem?_drop, List.getElem?_drop, Nat.add_zero]; exact flatM_get hz d ho hi hj, hK⟩
theorem get_flat0 {α : Type} {f : α → List AV} {z : Nat} (hz : ∀ x, (f x).length = z) (d : α) {l : List α} {i o j : Nat} {u : AV} {K : AV → Prop} (ho : o = i * z) (hi : i < l.length) (hj : (f (l.getD i d))[j]? = some u) (hK : K u) : aGet ((l.flatMap f).drop (o + j)) 0 K :=
  ⟨u, by rw [List.getElem?_drop, Nat.add_zero]; exact flatM_get hz d ho hi hj, hK⟩
theorem part_flat {α : Type} {f : α → List AV} {z : Nat} (hz : ∀ x, (f x).length = z) (hf : ∀ x, ((f x).all fun u => !u.isOwn) = true) (d : α) {l : List α} {i o : Nat} {k : AV → Prop} (ho : o = i * z) (hi : i < l.length) (hk : k (.agg (f (l.getD i d)))) :
    aTakeN z ((l.flatMap f).drop o) k := by
  have e : ((l.flatMap f).drop o).take z = f (l.getD i d) := by
    rw [ho, flat_drop hz d l i hi, List.take_append_of_le_length (by rw [hz]; exact Nat.le_refl _), List.take_of_length_le (by rw [hz]; exact Nat.le_refl _)]
  refine takeN_in ⟨?_, ?_, ?_⟩
  · rw [ho, flat_drop hz d l i hi, List.length_append, hz]; omega
  · rw [e]; exact hf _
  · rw [e]; exact hk
theorem get_ii_n {c k : Nat} {xss : List (List Int)} {K : AV → Prop} (h : k < xss.length) (hK : K (slI c (xss.getD k []))) : aGet ((xss.map (slI c)).drop ((k : Int).toNat * 1)) 0 K := get_map [] (by simp) h hK
theorem get_ii {c : Nat} {i : Int} {xss : List (List Int)} {K : AV → Prop} (h : 0 ≤ i ∧ i < xss.length) (hK : K (slI c (xss.getD i.toNat []))) : aGet ((xss.map (slI c)).drop (i.toNat * 1)) 0 K := get_map [] (by simp) (by omega) hK
theorem get_nd_n {c k j : Nat} {ns : List Nd} {u : AV} {K : AV → Prop} (h : k < ns.length) (hj : (ndC c (ns.getD k default))[j]? = some u) (hK : K u) : aGet (((ns.flatMap (ndC c)).drop ((k : Int).toNat * 4)).drop j) 0 K := get_flat (ndC_length c) default (by rw [Int.toNat_natCast]) h hj hK
theorem get_nd {c j : Nat} {i : Int} {ns : List Nd} {u : AV} {K : AV → Prop} (h : 0 ≤ i ∧ i < ns.length) (hj : (ndC c (ns.getD i.toNat default))[j]? = some u) (hK : K u) : aGet (((ns.flatMap (ndC c)).drop (i.toNat * 4)).drop j) 0 K := get_flat (ndC_length c) default rfl (by omega) hj hK
theorem part_nd_n {c k : Nat} {ns : List Nd} {K : AV → Prop} (h : k < ns.length) (hk : K (.agg (ndC c (ns.getD k default)))) :
    aTakeN 4 ((ns.flatMap (ndC c)).drop ((k : Int).toNat * 4)) K := part_flat (ndC_length c) (fun _ => rfl) default (by rw [Int.toNat_natCast]) h hk
theorem part_nd {c : Nat} {i : Int} {ns : List Nd} {K : AV → Prop} (h : 0 ≤ i ∧ i < ns.length) (hk : K (.agg (ndC c (ns.getD i.toNat default)))) :
    aTakeN 4 ((ns.flatMap (ndC c)).drop (i.toNat * 4)) K := part_flat (ndC_length c) (fun _ => rfl) default rfl (by omega) hk
theorem pureL_map {α : Type} {f : α → AV} (h : ∀ x, (f x).pure = true) : ∀ (l : List α), pureL (l.map f) = true
  | [] => rfl
  | x :: l => by rw [List.map_cons]; show ((f x).pure && pureL (l.map f)) = true; rw [h, pureL_map h l]; rfl
theorem pureL_app : ∀ {us vs : List AV}, pureL us = true → pureL vs = true → pureL (us ++ vs) = true
  | [], _, _, h => h
  | u :: us, vs, h, h' => by
    have h : (u.pure && pureL us) = true := h
    rw [Bool.and_eq_true] at h
    show (u.pure && pureL (us ++ vs)) = true
    rw [h.1, pureL_app h.2 h']; rfl
theorem protL_app : ∀ {us vs : List AV}, protL us = true → protL vs = true → protL (us ++ vs) = true
  | [], _, _, h => h
  | u :: us, vs, h, h' => by
    have h : (u.prot && protL us) = true := h
    rw [Bool.and_eq_true] at h
    show (u.prot && protL (us ++ vs)) = true
    rw [h.1, protL_app h.2 h']; rfl
theorem pureL_flat {α : Type} {f : α → List AV} (h : ∀ x, pureL (f x) = true) : ∀ (l : List α), pureL (l.flatMap f) = true
  | [] => rfl
  | x :: l => by rw [List.flatMap_cons]; exact pureL_app (h x) (pureL_flat h l)
theorem protL_map {α : Type} {f : α → AV} (h : ∀ x, (f x).prot = true) : ∀ (l : List α), protL (l.map f) = true
  | [] => rfl
  | x :: l => by rw [List.map_cons]; show ((f x).prot && protL (l.map f)) = true; rw [h, protL_map h l]; rfl
theorem protL_flat {α : Type} {f : α → List AV} (h : ∀ x, protL (f x) = true) : ∀ (l : List α), protL (l.flatMap f) = true
  | [] => rfl
  | x :: l => by rw [List.flatMap_cons]; exact protL_app (h x) (protL_flat h l)
theorem slI_pure (c : Nat) (xs : List Int) : (slI c xs).pure = true := pureL_ints _ _
theorem ownI_pure (t : TypeId) (xs : List Int) : (ownI t xs).pure = true := pureL_ints _ _
theorem ownI_prot (t : TypeId) (xs : List Int) : (ownI t xs).prot = true := protL_ints _ _
theorem ndC_pure (c : Nat) (n : Nd) : pureL (ndC c n) = true := by simp [ndC, pureL, AV.pure, slI_pure]
theorem ndO_pure (t : TypeId) (n : Nd) : pureL (ndO t n) = true := by simp [ndO, pureL, AV.pure, ownI_pure]
theorem ndO_prot (t : TypeId) (n : Nd) : protL (ndO t n) = true := by simp [ndO, protL, AV.prot, ownI_prot]
theorem pureL_ii (c : Nat) (xss : List (List Int)) : pureL (xss.map (slI c)) = true := pureL_map (slI_pure c) _
theorem pureL_nd (c : Nat) (ns : List Nd) : pureL (ns.flatMap (ndC c)) = true := pureL_flat (ndC_pure c) _
theorem protL_oi (t : TypeId) (xss : List (List Int)) : protL (xss.map (ownI t)) = true := protL_map (ownI_prot t) _
theorem protL_ond (t : TypeId) (ns : List Nd) : protL (ns.flatMap (ndO t)) = true := protL_flat (ndO_prot t) _
theorem pureL_oi (t : TypeId) (xss : List (List Int)) : pureL (xss.map (ownI t)) = true := pureL_map (ownI_pure t) _
theorem pureL_ond (t : TypeId) (ns : List Nd) : pureL (ns.flatMap (ndO t)) = true := pureL_flat (ndO_pure t) _
theorem tr_ownI (f : Nat) (t : TypeId) (xs : List Int) : AV.tr (f + 2) (ownI t xs) = some (slI 0 xs) := by
  show (((xs.map (AV.int .i64))).mapM (AV.tr (f + 1))).map (AV.sl 0 xs.length) = _
  rw [scalL_tr (scalL_ints _ _)]; rfl
theorem trL_map {α : Type} {f : Nat} {a b : α → AV} (h : ∀ x, AV.tr f (a x) = some (b x)) : ∀ (l : List α), (l.map a).mapM (AV.tr f) = some (l.map b)
  | [] => rfl
  | x :: l => by simp [List.mapM_cons, h, trL_map h l]
theorem trL_app {f : Nat} : ∀ {us us' vs vs' : List AV}, us.mapM (AV.tr f) = some us' → vs.mapM (AV.tr f) = some vs' → (us ++ vs).mapM (AV.tr f) = some (us' ++ vs')
  | [], us', vs, vs', h, h' => by
    have : us' = [] := by simpa using h.symm
    subst this; exact h'
  | u :: us, us', vs, vs', h, h' => by
    simp only [List.mapM_cons, Option.pure_def, Option.bind_eq_bind, Option.bind_eq_some_iff, Option.some.injEq] at h
    obtain ⟨v, h1, ws, h2, rfl⟩ := h
    have := trL_app h2 h'
    simp [List.mapM_cons, h1, this]
theorem trL_flat {α : Type} {f : Nat} {a b : α → List AV} (h : ∀ x, (a x).mapM (AV.tr f) = some (b x)) : ∀ (l : List α), (l.flatMap a).mapM (AV.tr f) = some (l.flatMap b)
  | [] => rfl
  | x :: l => by rw [List.flatMap_cons, List.flatMap_cons]; exact trL_app (h x) (trL_flat h l)
theorem tr_int (f : Nat) (k : IntKind) (n : Int) : AV.tr (f + 1) (.int k n) = some (.int k n) := rfl
theorem trL_ndO (f : Nat) (t : TypeId) (n : Nd) : (ndO t n).mapM (AV.tr (f + 2)) = some (ndC 0 n) := by simp [ndO, ndC, List.mapM_cons, tr_ownI, tr_int]
theorem cut_ii {f : Nat} {t : TypeId} {xss : List (List Int)} {m : Nat} {k : List AV → Prop} (hm : m = xss.length) (hk : k (xss.map (slI 0))) : aCut (f + 2) (xss.map (ownI t)) 0 (m * 1) k := cut_tr (by simp [hm]) (trL_map (tr_ownI f t) xss) hk
theorem cut_nd {f : Nat} {t : TypeId} {ns : List Nd} {m : Nat} {k : List AV → Prop} (hm : m = ns.length) (hk : k (ns.flatMap (ndC 0))) : aCut (f + 2) (ns.flatMap (ndO t)) 0 (m * 4) k := cut_tr (by rw [flat_len (ndO_length t), hm]) (trL_flat (trL_ndO f t) ns) hk
def fnR {ι : Type} (t : TypeId) (z : Nat) (args : ι → List AV) (pre : ι → Prop) (n : ι → Nat) (cells : ι → List AV) : CSpec :=
  { ι := ι, inout := [], args := args, ins := fun _ => [], pre := pre, post := fun x r ic news => ic = [] ∧ r = .ref 0 0 0 (n x) ∧ news = [⟨0, t, z, cells x⟩] }
def fnRB {ι : Type} (t : TypeId) (z : Nat) (args : ι → List AV) (pre : ι → Prop) (n : ι → Nat) (cells : ι → List AV) (b : ι → Bool) : CSpec :=
  { ι := ι, inout := [], args := args, ins := fun _ => [], pre := pre, post := fun x r ic news => ic = [] ∧ r = .tup [.ref 0 0 0 (n x), .bool (b x)] ∧ news = [⟨0, t, z, cells x⟩] }
def fnR2 {ι : Type} (t : TypeId) (z : Nat) (t' : TypeId) (z' : Nat) (args : ι → List AV) (pre : ι → Prop) (n n' : ι → Nat) (cells cells' : ι → List AV) : CSpec :=
  { ι := ι, inout := [], args := args, ins := fun _ => [], pre := pre, post := fun x r ic news => ic = [] ∧ r = .agg [.ref 0 0 0 (n x), .ref 1 0 0 (n' x)] ∧ news = [⟨0, t, z, cells x⟩, ⟨0, t', z', cells' x⟩] }
theorem news_prot {env : List AV} {rows : List Row} {ctr low : Nat} {T : List Nat} {t : TypeId} {z : Nat} {cells : List AV} (h : protL cells = true) : (⟨env, rows, ctr, low⟩ : St).news T [⟨0, t, z, cells⟩] = [⟨ctr, t, z, cells⟩] := by
  simp [St.news, protL_back h]
theorem news_prot2 {env : List AV} {rows : List Row} {ctr low : Nat} {T : List Nat} {t t' : TypeId} {z z' : Nat} {cells cells' : List AV} (h : protL cells = true) (h' : protL cells' = true) : (⟨env, rows, ctr, low⟩ : St).news T [⟨0, t, z, cells⟩, ⟨0, t', z', cells'⟩] = [⟨ctr, t, z, cells⟩, ⟨ctr, t', z', cells'⟩] := by
  simp [St.news, protL_back h, protL_back h']
section
variable {P : Program} {f : FuncId} {ι : Type} {t t' : TypeId} {z z' : Nat} {args : ι → List AV} {pre : ι → Prop} {n n' : ι → Nat} {cells cells' : ι → List AV} {b : ι → Bool} {env : List AV} {rows : List Row} {ctr low : Nat} {k : AV → St → Prop}
theorem callR_in (hs : Sound P f (fnR t z args pre n cells)) (x : ι) (hpre : pre x) (hp : protL (cells x) = true)
    (hk : k (.ref rows.length ctr 0 (n x)) ⟨env, rows ++ [⟨ctr, t, z, cells x⟩], ctr + 1, low⟩) : CallB P f ⟨env, rows, ctr, low⟩ (args x) k := callB_in (sp := fnR t z args pre n cells) hs rfl x rfl hpre (by
  rintro r news ⟨-, rfl, rfl⟩
  rw [news_prot hp]
  simpa [AV.back, backT, backV] using hk)
theorem callRB_in (hs : Sound P f (fnRB t z args pre n cells b)) (x : ι) (hpre : pre x) (hp : protL (cells x) = true)
    (hk : k (.tup [.ref rows.length ctr 0 (n x), .bool (b x)]) ⟨env, rows ++ [⟨ctr, t, z, cells x⟩], ctr + 1, low⟩) : CallB P f ⟨env, rows, ctr, low⟩ (args x) k := callB_in (sp := fnRB t z args pre n cells b) hs rfl x rfl hpre (by
  rintro r news ⟨-, rfl, rfl⟩
  rw [news_prot hp]
  simpa [AV.back, backL, backT, backV] using hk)
theorem callR2_in (hs : Sound P f (fnR2 t z t' z' args pre n n' cells cells')) (x : ι) (hpre : pre x) (hp : protL (cells x) = true) (hp' : protL (cells' x) = true)
    (hk : k (.agg [.ref rows.length ctr 0 (n x), .ref (rows.length + 1) ctr 0 (n' x)]) ⟨env, rows ++ [⟨ctr, t, z, cells x⟩, ⟨ctr, t', z', cells' x⟩], ctr + 1, low⟩) : CallB P f ⟨env, rows, ctr, low⟩ (args x) k := callB_in (sp := fnR2 t z t' z' args pre n n' cells cells') hs rfl x rfl hpre (by
  rintro r news ⟨-, rfl, rfl⟩
  rw [news_prot2 hp hp']
  simpa [AV.back, backL, backT, backV, Nat.add_comm] using hk)
end
theorem retR {env : List AV} {rows : List Row} {ctr τ ver m m' z : Nat} {t : TypeId} {cells cells' : List AV} (hr : rows[τ]? = some ⟨ver, t, z, cells⟩) (hp : protL cells = true) (hm : m = m') (hc : cells = cells') :
    RetB ⟨env, rows, ctr, 0⟩ [] (fun r ic news => ic = [] ∧ r = .ref 0 0 0 m' ∧ news = [⟨0, t, z, cells'⟩]) (.ref τ ver 0 m) := by
  subst hm; subst hc
  refine retP1 (Q := fun r news => r = .ref 0 0 0 m ∧ news = [⟨0, t, z, cells⟩]) (L := [τ]) (by simp) ?_ ?_ ⟨rfl, rfl⟩
  · simp [insOf, hr, protL_ren hp]
  · simp [AV.ren, hr]
theorem retRB {env : List AV} {rows : List Row} {ctr τ ver m m' z : Nat} {t : TypeId} {cells cells' : List AV} {b b' : Bool} (hr : rows[τ]? = some ⟨ver, t, z, cells⟩) (hp : protL cells = true) (hm : m = m') (hc : cells = cells') (hb : b = b') :
    RetB ⟨env, rows, ctr, 0⟩ [] (fun r ic news => ic = [] ∧ r = .tup [.ref 0 0 0 m', .bool b'] ∧ news = [⟨0, t, z, cells'⟩]) (.tup [.ref τ ver 0 m, .bool b]) := by
  subst hm; subst hc; subst hb
  refine retP1 (Q := fun r news => r = .tup [.ref 0 0 0 m, .bool b] ∧ news = [⟨0, t, z, cells⟩]) (L := [τ]) (by simp) ?_ ?_ ⟨rfl, rfl⟩
  · simp [insOf, hr, protL_ren hp]
  · simp [AV.ren, renL, hr]
theorem retR2 {env : List AV} {rows : List Row} {ctr τ ver τ' ver' m1 m2 m1' m2' z z' : Nat} {t t' : TypeId} {cells cells1 cells' cells1' : List AV} (hne : τ ≠ τ') (hr : rows[τ]? = some ⟨ver, t, z, cells⟩) (hr' : rows[τ']? = some ⟨ver', t', z', cells'⟩) (hp : protL cells = true) (hp' : protL cells' = true) (hm : m1 = m1') (hm' : m2 = m2') (hc : cells = cells1) (hc' : cells' = cells1') :
    RetB ⟨env, rows, ctr, 0⟩ [] (fun r ic news => ic = [] ∧ r = .agg [.ref 0 0 0 m1', .ref 1 0 0 m2'] ∧ news = [⟨0, t, z, cells1⟩, ⟨0, t', z', cells1'⟩]) (.agg [.ref τ ver 0 m1, .ref τ' ver' 0 m2]) := by
  subst hm; subst hm'; subst hc; subst hc'
  refine retP1 (Q := fun r news => r = .agg [.ref 0 0 0 m1, .ref 1 0 0 m2] ∧ news = [⟨0, t, z, cells⟩, ⟨0, t', z', cells'⟩]) (L := [τ, τ']) (by simpa using hne) ?_ ?_ ⟨rfl, rfl⟩
  · simp [insOf, hr, hr', protL_ren hp, protL_ren hp']
  · have : (τ == τ') = false := by simpa using hne
    simp [AV.ren, renL, hr, hr', List.idxOf, List.findIdx_cons, this]
def fnMR {ι : Type} (t : TypeId) (z : Nat) (n : ι → Nat) (cells : ι → List AV) (m : ι → Int) (pre : ι → Prop) (r : ι → Int) (cells' : ι → List AV) : CSpec :=
  { ι := ι, inout := [true], args := fun x => [.ref 0 0 0 (n x), .int .i64 (m x)], ins := fun x => [⟨0, t, z, cells x⟩], pre := pre, post := fun x u ic news => u = .int .i64 (r x) ∧ ic = [cells' x] ∧ news = [] }
theorem callMR_in {P : Program} {f : FuncId} {ι : Type} {t : TypeId} {z : Nat} {n : ι → Nat} {cells : ι → List AV} {m : ι → Int} {pre : ι → Prop} {r : ι → Int} {cells' : ι → List AV} (hs : Sound P f (fnMR t z n cells m pre r cells')) (x : ι) (hpre : pre x) (hp : protL (cells x) = true) (hp' : protL (cells' x) = true) {env : List AV} {rows : List Row} {ctr low τ ver n1 : Nat} {i : Int} {k : AV → St → Prop}
    (hr : rows[τ]? = some ⟨ver, t, z, cells x⟩) (hn : n1 = n x) (hi : i = m x) (hk : k (.int .i64 (r x)) ⟨env, setRows rows [τ] [cells' x], ctr + 1, low⟩) :
    CallG P f ⟨env, rows, ctr, low⟩ [.ref τ ver 0 n1, .int .i64 i] k := by
  subst hn; subst hi
  refine .inr ⟨[τ], _, hs, [.ref 0 0 0 (n x), .int .i64 (m x)], [⟨0, t, z, cells x⟩], by simp, ?_, ?_, x, rfl, rfl, hpre, ?_⟩
  · have e1 : callArg ⟨env, rows, ctr, low⟩ [τ] true (.ref τ ver 0 (n x)) = some (.ref 0 0 0 (n x)) := by
      simp [callArg, AV.ren, hr]
    show (callArg ⟨env, rows, ctr, low⟩ [τ] true (.ref τ ver 0 (n x))).bind _ = _
    rw [e1]
    rfl
  · simp [insOf, hr, protL_ren hp]
  · rintro u ic news ⟨rfl, rfl, rfl⟩ _
    show k (.int .i64 (r x)) ⟨env, setRows rows [τ] [backL _ [τ] (cells' x)] ++ [], ctr + 1, low⟩
    rw [List.append_nil, protL_back hp']; exact hk
theorem retMR {env : List AV} {ctr : Nat} {t : TypeId} {z : Nat} {cells cells1 cells' : List AV} {ver : Nat} {rest : List Row} {i i' : Int} (hp : protL cells1 = true) (e : i = i') (hc : cells1 = cells') :
    RetB ⟨env, ⟨ver, t, z, cells1⟩ :: rest, ctr, 1⟩ [⟨0, t, z, cells⟩] (fun u ic news => u = .int .i64 i' ∧ ic = [cells'] ∧ news = []) (.int .i64 i) := by
  subst e; subst hc
  refine RetB1.ret ⟨[], [⟨0, t, z, cells1⟩], .int .i64 i, [cells1], [], (show ([0] : List Nat).Nodup by decide), ?_, rfl, rfl, rfl, rfl, rfl, rfl⟩
  show insOf _ [0] [0] = _
  simp [insOf, protL_ren hp]
def fnMR2 {ι : Type} (t : TypeId) (z : Nat) (t' : TypeId) (z' : Nat) (n n' : ι → Nat) (cells cells' : ι → List AV) (m : ι → Int) (pre : ι → Prop) (r : ι → Int) (out out' : ι → List AV) : CSpec :=
  { ι := ι, inout := [true], args := fun x => [.agg [.ref 0 0 0 (n x), .ref 1 0 0 (n' x)], .int .i64 (m x)], ins := fun x => [⟨0, t, z, cells x⟩, ⟨0, t', z', cells' x⟩], pre := pre, post := fun x u ic news => u = .int .i64 (r x) ∧ ic = [out x, out' x] ∧ news = [] }
theorem callMR2_in {P : Program} {f : FuncId} {ι : Type} {t t' : TypeId} {z z' : Nat} {n n' : ι → Nat} {cells cells' : ι → List AV} {m : ι → Int} {pre : ι → Prop} {r : ι → Int} {out out' : ι → List AV} (hs : Sound P f (fnMR2 t z t' z' n n' cells cells' m pre r out out')) (x : ι) (hpre : pre x) (hp : protL (cells x) = true) (hp' : protL (cells' x) = true) (ho : protL (out x) = true) (ho' : protL (out' x) = true) {env : List AV} {rows : List Row} {ctr low τ1 τ2 v1 v2 n1 n2 : Nat} {i : Int} {k : AV → St → Prop}
    (h1 : rows[τ1]? = some ⟨v1, t, z, cells x⟩) (h2 : rows[τ2]? = some ⟨v2, t', z', cells' x⟩) (hne : τ1 ≠ τ2) (e1 : n1 = n x) (e2 : n2 = n' x) (hi : i = m x) (hk : k (.int .i64 (r x)) ⟨env, setRows rows [τ1, τ2] [out x, out' x], ctr + 1, low⟩) :
    CallG P f ⟨env, rows, ctr, low⟩ [.agg [.ref τ1 v1 0 n1, .ref τ2 v2 0 n2], .int .i64 i] k := by
  subst e1; subst e2; subst hi
  refine .inr ⟨[τ1, τ2], _, hs, [.agg [.ref 0 0 0 (n x), .ref 1 0 0 (n' x)], .int .i64 (m x)], [⟨0, t, z, cells x⟩, ⟨0, t', z', cells' x⟩], by simpa using hne, ?_, ?_, x, rfl, rfl, hpre, ?_⟩
  · have hb : (τ1 == τ2) = false := by simpa using hne
    have ea : callArg ⟨env, rows, ctr, low⟩ [τ1, τ2] true (.agg [.ref τ1 v1 0 (n x), .ref τ2 v2 0 (n' x)]) = some (.agg [.ref 0 0 0 (n x), .ref 1 0 0 (n' x)]) := by
      simp [callArg, AV.ren, renL, h1, h2, List.idxOf, List.findIdx_cons, hb]
    show (callArg ⟨env, rows, ctr, low⟩ [τ1, τ2] true (.agg [.ref τ1 v1 0 (n x), .ref τ2 v2 0 (n' x)])).bind _ = _
    rw [ea]
    rfl
  · simp [insOf, h1, h2, protL_ren hp, protL_ren hp']
  · rintro u ic news ⟨rfl, rfl, rfl⟩ _
    show k (.int .i64 (r x)) ⟨env, setRows rows [τ1, τ2] [backL _ [τ1, τ2] (out x), backL _ [τ1, τ2] (out' x)] ++ [], ctr + 1, low⟩
    rw [List.append_nil, protL_back ho, protL_back ho']; exact hk
theorem retMR2 {env : List AV} {ctr : Nat} {t t' : TypeId} {z z' : Nat} {cells cells' o1 o2 out out' : List AV} {v1 v2 : Nat} {rest : List Row} {i i' : Int} (hp : protL o1 = true) (hp' : protL o2 = true) (e : i = i') (hc : o1 = out) (hc' : o2 = out') :
    RetB ⟨env, ⟨v1, t, z, o1⟩ :: ⟨v2, t', z', o2⟩ :: rest, ctr, 2⟩ [⟨0, t, z, cells⟩, ⟨0, t', z', cells'⟩] (fun u ic news => u = .int .i64 i' ∧ ic = [out, out'] ∧ news = []) (.int .i64 i) := by
  subst e; subst hc; subst hc'
  refine RetB1.ret ⟨[], [⟨0, t, z, o1⟩, ⟨0, t', z', o2⟩], .int .i64 i, [o1, o2], [], (show ([0, 1] : List Nat).Nodup by decide), ?_, rfl, rfl, rfl, rfl, rfl, rfl⟩
  show insOf _ [0, 1] [0, 1] = _
  simp [insOf, protL_ren hp, protL_ren hp']
end Go.Am
