import Derived.Test.YtjmdhfjemaoebaaGreatM0x10
import Derived.ProofKit
namespace Go.Am
open Go.RowKit Go.WideShapes Go.ChangeShapes
inductive ArgOk (P : Program) : TypeId → AV → Prop
  | int (t : TypeId) (n : Int) (ht : P.underlying t = some (.int .i64)) (hn : (Lit.int .i64 n).wf = true) : ArgOk P t (.int .i64 n)
  | ints (t e : TypeId) (k : IntKind) (zs : List Int) (ht : P.underlying t = some (.slice e)) (he : P.underlying e = some (.int k)) (hz : ∀ z ∈ zs, (Lit.int k z).wf = true) : ArgOk P t (.sl 1 zs.length (zs.map (.int k)))
def opens (P : Program) (t : TypeId) : Bool :=
  match P.underlying t with
  | some (.int .i64) => true
  | some (.slice e) => (match P.underlying e with | some (.int _) => true | _ => false) && P.cellsOf e == 1
  | _ => false
section
variable {H : Type} {enc : TypeId × Value → H} {P : Program} {W : World}
theorem args_stay {sp : Nat → Bool} {W' : World} (hl : laidOutB P = true) : ∀ {ts : List TypeId} {vs : List Value} {ds : List (DataW H)} {p : List MemPlace}, ts.all (fun t => P.readableRec t && decide (t < P.types.size)) = true →
    DataW.TrodAll enc P W 0 (fun _ => true) true ts vs ds p → (∀ x ∈ p, W.sameAt W' x) → (∀ x ∈ p, sp x.block = true) → DataW.TrodAll enc P W' 0 sp true ts vs ds p
  | [], vs, ds, p, _, h, _, _ => by
    obtain ⟨rfl, rfl, rfl⟩ := trodAll_nil h
    exact rfl
  | t :: ts, vs, ds, p, hr, h, hsame, hsp => by
    obtain ⟨v, vs', d, ds', p1, q, rfl, rfl, rfl, hd, hrest⟩ := trodAll_cons h
    simp only [List.all_cons, Bool.and_eq_true, decide_eq_true_eq] at hr
    exact ⟨p1, q, WideElems.Trod_stays hl hr.1.1 hr.1.2 hd (fun x hx => hsame x (List.mem_append.2 (.inl hx))) (fun x hx => hsp x (List.mem_append.2 (.inl hx))),
      args_stay hl hr.2 hrest (fun x hx => hsame x (List.mem_append.2 (.inr hx))) (fun x hx => hsp x (List.mem_append.2 (.inr hx))), rfl⟩
end
end Go.Am
namespace Go.Am
open Go.RowKit
theorem enters_of {P : Program} {f : FuncId} {fn : Func} (hf : P.funcs[f]? = some fn) (hn : (fn.name == "runtime.NumGoroutine") = false) (hb : fn.body.isSome = true) : Enters P f := fun args w => by
  have hn' : ¬ fn.name = "runtime.NumGoroutine" := by simpa using hn
  have hb' : ¬ fn.body = none := by intro e; rw [e] at hb; cases hb
  simp [callFunc, hf, hn', hb']
def NextB {ι : Type} (F : ι → St) (p : ι → Prop) (m : ι → Nat) (n : Nat) (s1 : St) : Prop := ∃ n' s2, n' < n ∧ s1.to s2 ∧ ∃ x, m x = n' ∧ p x ∧ s2 = F x
theorem next_to {ι : Type} {F : ι → St} {p : ι → Prop} {m : ι → Nat} {n : Nat} {s1 : St} (x : ι) (hm : m x < n) (hp : p x) (hle : s1.to (F x)) : NextB F p m n s1 := ⟨m x, F x, hm, hle, x, rfl, hp, rfl⟩
theorem next_in {ι : Type} {F : ι → St} {p : ι → Prop} {m : ι → Nat} {n : Nat} {s1 : St} (x : ι) (hm : m x < n) (hp : p x) (hle : s1.le (F x)) : NextB F p m n s1 := next_to x hm hp hle.to
theorem loop_to {body : (Exit → St → Prop) → St → Prop} {Q : Exit → St → Prop} {s : St} {ι : Type} (F : ι → St) (p : ι → Prop) (m : ι → Nat) (x0 : ι) (hp : p x0) (h0 : s.to (F x0))
    (hr : ∀ x, p x → body (aThen (NextB F p m (m x)) Q) (F x)) : aLoop body Q s := by
  refine ⟨fun n s' => ∃ x, m x = n ∧ p x ∧ s' = F x, ⟨m x0, F x0, h0, x0, rfl, hp, rfl⟩, ?_⟩
  rintro n s' ⟨x, rfl, hx, rfl⟩
  exact hr x hx
theorem loop_in {body : (Exit → St → Prop) → St → Prop} {Q : Exit → St → Prop} {s : St} {ι : Type} (F : ι → St) (p : ι → Prop) (m : ι → Nat) (x0 : ι) (hp : p x0) (h0 : s.le (F x0))
    (hr : ∀ x, p x → body (aThen (NextB F p m (m x)) Q) (F x)) : aLoop body Q s := loop_to F p m x0 hp h0.to hr
theorem to_close {s s' : St} (t j τ v n z : Nat) (e : TypeId) (r : Row) (cs : List AV) (hr : s.rows[t]? = some r) (hc : r.cells[j]? = some (.ref τ v 0 n)) (hτ : s.rows[τ]? = some ⟨v, e, z, cs⟩) (hne : t ≠ τ) (hlow : s.low ≤ τ) (hz : z ≠ 0) (hl : cs.length = n * z)
    (h : (s.closeAt t j τ r e z n cs).to s') : s.to s' := by
  obtain ⟨s1, h1, h2⟩ := h
  exact ⟨s1, .step s s1 t j τ v n z e r cs hr hc hτ hne hlow hz hl h1, h2⟩
theorem ret_close {s : St} {ins : List Row} {post : AV → List (List AV) → List Row → Prop} {u : AV} (t j τ v n z : Nat) (e : TypeId) (r : Row) (cs : List AV) (hr : s.rows[t]? = some r) (hc : r.cells[j]? = some (.ref τ v 0 n)) (hτ : s.rows[τ]? = some ⟨v, e, z, cs⟩) (hne : t ≠ τ) (hlow : s.low ≤ τ) (hz : z ≠ 0) (hl : cs.length = n * z)
    (h : RetB (s.closeAt t j τ r e z n cs) ins post u) : RetB s ins post u := by
  obtain ⟨s1, h1, h2⟩ := h
  exact ⟨s1, .step s s1 t j τ v n z e r cs hr hc hτ hne hlow hz hl h1, h2⟩
theorem int_eq {k : IntKind} {a b : Int} (h : a = b) : AV.int k a = AV.int k b := by rw [h]
theorem bool_eq {a b : Bool} (h : (a = true) ↔ (b = true)) : AV.bool a = AV.bool b := by cases a <;> cases b <;> simp at h <;> rfl
theorem aIf_tt {b : Bool} {x y : Prop} (hb : b = true) (h : x) : aIf b x y := by subst hb; exact aIf_t h
theorem aIf_ff {b : Bool} {x y : Prop} (hb : b = false) (h : y) : aIf b x y := by subst hb; exact aIf_f h
theorem aIf_eqt {b : Bool} {x y : Prop} (h : aIf b x y) : aIf (b == true) x y := by cases b <;> exact h
theorem aIf_eqf {b : Bool} {x y : Prop} (h : aIf b y x) : aIf (b == false) x y := by
  cases b
  · exact ⟨fun _ => h.2 rfl, fun e => Bool.noConfusion e⟩
  · exact ⟨fun e => Bool.noConfusion e, fun _ => h.1 rfl⟩
theorem aIf_not {b : Bool} {x y : Prop} (h : aIf b y x) : aIf (!b) x y := by
  cases b
  · exact ⟨fun _ => h.2 rfl, fun e => Bool.noConfusion e⟩
  · exact ⟨fun e => Bool.noConfusion e, fun _ => h.1 rfl⟩
theorem aIf_dec {p : Prop} [Decidable p] {x y : Prop} (h : p → x) (h' : ¬ p → y) : aIf (decide p) x y := ⟨fun e => h (of_decide_eq_true e), fun e => h' (of_decide_eq_false e)⟩
theorem aIf_beself {a : Bool} {x y : Prop} (h' : x) : aIf (a == a) x y := ⟨fun _ => h', fun e => by simp at e⟩
theorem aIf_decself {α : Type} [DecidableEq α] {a : α} {x y : Prop} (h : x) : aIf (decide (a = a)) x y := ⟨fun _ => h, fun e => by simp at e⟩
theorem drop_get {zs : List Int} {kd : IntKind} {o : Nat} (h : o < zs.length) : ((zs.map (.int kd)).drop o)[0]? = some (AV.int kd (zs.getD o 0)) := by
  simp [List.getElem?_drop, List.getElem?_eq_getElem h, List.getD]
theorem get_nat {zs : List Int} {kd : IntKind} {k : Nat} {K : AV → Prop} (h : k < zs.length) (hK : K (.int kd (zs.getD k 0))) : aGet ((zs.map (.int kd)).drop ((k : Int).toNat * 1)) 0 K :=
  ⟨_, by rw [Int.toNat_natCast, Nat.mul_one]; exact drop_get h, hK⟩
theorem get_int {zs : List Int} {kd : IntKind} {i : Int} {K : AV → Prop} (h : 0 ≤ i ∧ i < zs.length) (hK : K (.int kd (zs.getD i.toNat 0))) : aGet ((zs.map (.int kd)).drop (i.toNat * 1)) 0 K :=
  ⟨_, by rw [Nat.mul_one]; exact drop_get (by omega), hK⟩
theorem get_nat0 {zs : List Int} {kd : IntKind} {k : Nat} {K : AV → Prop} (h : k < zs.length) (hK : K (.int kd (zs.getD k 0))) : aGet ((zs.map (.int kd)).drop (0 + (k : Int).toNat * 1)) 0 K := by
  rw [Nat.zero_add]; exact get_nat h hK
theorem get_int0 {zs : List Int} {kd : IntKind} {i : Int} {K : AV → Prop} (h : 0 ≤ i ∧ i < zs.length) (hK : K (.int kd (zs.getD i.toNat 0))) : aGet ((zs.map (.int kd)).drop (0 + i.toNat * 1)) 0 K := by
  rw [Nat.zero_add]; exact get_int h hK
theorem scalL_ints (k : IntKind) (zs : List Int) : scalL (zs.map (.int k)) = true := by
  simp only [scalL, List.all_map, List.all_eq_true]; intro x _; rfl
theorem cut_ints {kd : IntKind} {zs : List Int} {k : List AV → Prop} {f : Nat} (hk : k (zs.map (.int kd))) : aCut (f + 1) (zs.map (.int kd)) 0 (zs.length * 1) k := cut_all (by simp) (scalL_ints _ _) hk
theorem scalL_bools (zs : List Bool) : scalL (zs.map .bool) = true := by
  simp only [scalL, List.all_map, List.all_eq_true]; intro x _; rfl
theorem pureL_ints (k : IntKind) (zs : List Int) : pureL (zs.map (.int k)) = true := scalL_pure (scalL_ints k zs)
theorem pureL_bools (zs : List Bool) : pureL (zs.map .bool) = true := scalL_pure (scalL_bools zs)
theorem protL_ints (k : IntKind) (zs : List Int) : protL (zs.map (.int k)) = true := scalL_prot (scalL_ints k zs)
theorem ret_val {env : List AV} {rows : List Row} {ctr : Nat} {post : AV → List (List AV) → List Row → Prop} {u : AV} (hu : u.val.isSome = true) (hp : post u [] []) : RetB ⟨env, rows, ctr, 0⟩ [] post u :=
  RetB1.ret ⟨[], [], u, [], [], List.nodup_nil, rfl, prot_ren (scal_prot hu), rfl, rfl, hp⟩
theorem ret_ref {env : List AV} {rows : List Row} {ctr : Nat} {post : AV → List (List AV) → List Row → Prop} {τ ver off n : Nat} {r : Row} (hr : rows[τ]? = some r) (hv : r.ver = ver) (hs : protL r.cells = true) (hp : post (.ref 0 0 off n) [] [{ r with ver := 0 }]) : RetB ⟨env, rows, ctr, 0⟩ [] post (.ref τ ver off n) := by
  refine RetB1.ret ⟨[τ], [{ r with ver := 0 }], .ref 0 0 off n, [], [{ r with ver := 0 }], by simp, ?_, ?_, rfl, rfl, hp⟩
  · simp [insOf, hr, protL_ren hs]
  · simp [AV.ren, hr, hv]
theorem ret_ref_val {env : List AV} {rows : List Row} {ctr : Nat} {post : AV → List (List AV) → List Row → Prop} {τ ver off n : Nat} {r : Row} {u : AV} (hr : rows[τ]? = some r) (hv : r.ver = ver) (hs : protL r.cells = true) (hu : u.val.isSome = true) (hp : post (.tup [.ref 0 0 off n, u]) [] [{ r with ver := 0 }]) :
    RetB ⟨env, rows, ctr, 0⟩ [] post (.tup [.ref τ ver off n, u]) := by
  have e1 : ∀ s T, u.ren s T = some u := fun s T => prot_ren (scal_prot hu)
  refine RetB1.ret ⟨[τ], [{ r with ver := 0 }], .tup [.ref 0 0 off n, u], [], [{ r with ver := 0 }], by simp, ?_, ?_, rfl, rfl, hp⟩
  · simp [insOf, hr, protL_ren hs]
  · simp [AV.ren, renL, hr, hv, e1]
def fnS {ι : Type} (args : ι → List AV) (pre : ι → Prop) (u : ι → AV) : CSpec := { ι := ι, inout := [], args := args, ins := fun _ => [], pre := pre, post := fun x r ic news => r = u x ∧ ic = [] ∧ news = [] }
def fnL {ι : Type} (t : TypeId) (args : ι → List AV) (pre : ι → Prop) (zs : ι → List Int) : CSpec :=
  { ι := ι, inout := [], args := args, ins := fun _ => [], pre := pre, post := fun x r ic news => r = .ref 0 0 0 (zs x).length ∧ ic = [] ∧ news = [⟨0, t, 1, (zs x).map (.int .i64)⟩] }
theorem news_ints (env : List AV) (rows : List Row) (ctr low : Nat) (T : List Nat) (t : TypeId) (k : IntKind) (zs : List Int) : (⟨env, rows, ctr, low⟩ : St).news T [⟨0, t, 1, zs.map (.int k)⟩] = [⟨ctr, t, 1, zs.map (.int k)⟩] := by
  simp [St.news, protL_back (protL_ints k zs)]
theorem back_new (env : List AV) (rows : List Row) (ctr low off n : Nat) : (AV.ref 0 0 off n).back ⟨env, rows, ctr, low⟩ [] = .ref rows.length ctr off n := by
  simp [AV.back, backT, backV]
theorem callS_in {P : Program} {f : FuncId} {ι : Type} {args : ι → List AV} {pre : ι → Prop} {u : ι → AV} (hs : Sound P f (fnS args pre u)) (x : ι) (hpre : pre x) (hu : (u x).val.isSome = true) {env : List AV} {rows : List Row} {ctr low : Nat} {k : AV → St → Prop} (hk : k (u x) ⟨env, rows, ctr + 1, low⟩) :
    CallB P f ⟨env, rows, ctr, low⟩ (args x) k := callB_in (sp := fnS args pre u) hs rfl x rfl hpre (by
  rintro r news ⟨rfl, -, rfl⟩
  show k ((u x).back _ []) ⟨env, rows ++ [], ctr + 1, low⟩
  rw [prot_back (scal_prot hu), List.append_nil]; exact hk)
theorem callL_in {P : Program} {f : FuncId} {ι : Type} {t : TypeId} {args : ι → List AV} {pre : ι → Prop} {zs : ι → List Int} (hs : Sound P f (fnL t args pre zs)) (x : ι) (hpre : pre x) {env : List AV} {rows : List Row} {ctr low : Nat} {k : AV → St → Prop}
    (hk : k (.ref rows.length ctr 0 (zs x).length) ⟨env, rows ++ [⟨ctr, t, 1, (zs x).map (.int .i64)⟩], ctr + 1, low⟩) :
    CallB P f ⟨env, rows, ctr, low⟩ (args x) k := callB_in (sp := fnL t args pre zs) hs rfl x rfl hpre (by
  rintro r news ⟨rfl, -, rfl⟩
  rw [back_new, news_ints]; exact hk)
theorem retS {env : List AV} {rows : List Row} {ctr : Nat} {u u' : AV} (hu : u.val.isSome = true) (e : u = u') : RetB ⟨env, rows, ctr, 0⟩ [] (fun r ic news => r = u' ∧ ic = [] ∧ news = []) u := ret_val hu ⟨e, rfl, rfl⟩
theorem retL {env : List AV} {rows : List Row} {ctr τ ver : Nat} {t : TypeId} {zs : List Int} {r : Row} {n : Nat} (hr : rows[τ]? = some r) (hv : r.ver = ver) (e : r = ⟨ver, t, 1, zs.map (.int .i64)⟩) (hn : n = zs.length) :
    RetB ⟨env, rows, ctr, 0⟩ [] (fun r ic news => r = .ref 0 0 0 zs.length ∧ ic = [] ∧ news = [⟨0, t, 1, zs.map (.int .i64)⟩]) (.ref τ ver 0 n) := by
  subst e; subst hn
  exact ret_ref hr hv (protL_ints _ _) ⟨rfl, rfl, rfl⟩
theorem set_nat {ws : List Int} {kd : IntKind} {k : Nat} {z : Int} {K : List AV → Prop} (hK : K ((ws.set k z).map (.int kd))) (h : k < ws.length) : aSet (ws.map (.int kd)) (0 + (k : Int).toNat * 1) [.int kd z] K := by
  have : (ws.map (AV.int kd)).take (0 + (k : Int).toNat * 1) ++ ([AV.int kd z] ++ (ws.map (AV.int kd)).drop (0 + (k : Int).toNat * 1 + [AV.int kd z].length)) = (ws.set k z).map (.int kd) := by
    rw [List.map_set, List.set_eq_take_append_cons_drop, if_pos (by simpa using h)]
    simp
  unfold aSet; rw [this]; exact hK
theorem set_int {ws : List Int} {kd : IntKind} {i : Int} {z : Int} {K : List AV → Prop} (hK : K ((ws.set i.toNat z).map (.int kd))) (h : 0 ≤ i ∧ i < ws.length) : aSet (ws.map (.int kd)) (0 + i.toNat * 1) [.int kd z] K := by
  obtain ⟨n, rfl⟩ : ∃ n : Nat, i = n := ⟨i.toNat, by omega⟩
  rw [Int.toNat_natCast] at hK
  exact set_nat hK (by omega)
theorem get_bool0 {bs : List Bool} {i : Int} {K : AV → Prop} (h : 0 ≤ i ∧ i < bs.length) (hK : K (.bool (bs.getD i.toNat false))) : aGet ((bs.map .bool).drop (0 + i.toNat * 1)) 0 K := by
  have h' : i.toNat < bs.length := by omega
  exact ⟨_, by rw [Nat.zero_add, Nat.mul_one]; simp [List.getElem?_drop, List.getElem?_eq_getElem h', List.getD], hK⟩
theorem set_bool {bs : List Bool} {i : Int} {b : Bool} {K : List AV → Prop} (hK : K ((bs.set i.toNat b).map .bool)) (h : 0 ≤ i ∧ i < bs.length) : aSet (bs.map .bool) (0 + i.toNat * 1) [.bool b] K := by
  have h' : i.toNat < bs.length := by omega
  have : (bs.map AV.bool).take (0 + i.toNat * 1) ++ ([AV.bool b] ++ (bs.map AV.bool).drop (0 + i.toNat * 1 + [AV.bool b].length)) = (bs.set i.toNat b).map .bool := by
    rw [List.map_set, List.set_eq_take_append_cons_drop, if_pos (by simpa using h')]
    simp
  unfold aSet; rw [this]; exact hK
theorem rep_bools (n : Nat) : rep n [.bool false] = (List.replicate n false).map .bool := by
  rw [List.map_replicate]; rfl
theorem le_bools {cs : List AV} {zs : List Bool} {p : Prop} (h : cs = zs.map .bool) : (pureL cs = true ∧ zs.map .bool = cs) ∨ p := .inl ⟨by rw [h]; exact pureL_bools _, h.symm⟩
theorem set_force {cells : List AV} {off : Nat} {us : List AV} {K : List AV → Prop} (hK : forceL (cells.take off ++ (us ++ cells.drop (off + us.length))) K) : aSet cells off us K := by
  rw [forceL_eq] at hK; exact hK
theorem rep_ints (n : Nat) (kd : IntKind) : rep n [.int kd 0] = (List.replicate n (0 : Int)).map (.int kd) := by
  rw [List.map_replicate]; rfl
theorem le_ints {cs : List AV} {kd : IntKind} {zs : List Int} {p : Prop} (h : cs = zs.map (.int kd)) : (pureL cs = true ∧ zs.map (.int kd) = cs) ∨ p := .inl ⟨by rw [h]; exact pureL_ints _ _, h.symm⟩
theorem getD_ext {xs ys : List Int} (hl : xs.length = ys.length) (h : ∀ j, j < ys.length → xs.getD j 0 = ys.getD j 0) : xs = ys := by
  apply List.ext_getElem hl
  intro j h1 h2
  have := h j h2
  simpa [List.getD, List.getElem?_eq_getElem h1, List.getElem?_eq_getElem h2] using this
theorem getD_set {ws : List Int} {k j : Nat} {z : Int} (h : k < ws.length) : (ws.set k z).getD j 0 = if k = j then z else ws.getD j 0 := by
  simp only [List.getD, List.getElem?_set]
  by_cases e : k = j
  · subst e; simp [h]
  · simp [e]
theorem bytes_le {x b : Nat} {l m : Int} (h : x = b) (h' : (b : Int) * l ≤ m) : (x : Int) * l ≤ m := by subst h; exact h'
def fnM {ι : Type} (t : TypeId) (zs : ι → List Int) (m : ι → Int) (pre : ι → Prop) (r : ι → Int) (ws : ι → List Int) : CSpec :=
  { ι := ι, inout := [true], args := fun x => [.ref 0 0 0 (zs x).length, .int .i64 (m x)], ins := fun x => [⟨0, t, 1, (zs x).map (.int .i64)⟩], pre := pre, post := fun x u ic news => u = .int .i64 (r x) ∧ ic = [(ws x).map (.int .i64)] ∧ news = [] }
theorem callM_in {P : Program} {f : FuncId} {ι : Type} {t : TypeId} {zs : ι → List Int} {m : ι → Int} {pre : ι → Prop} {r : ι → Int} {ws : ι → List Int} (hs : Sound P f (fnM t zs m pre r ws)) (x : ι) (hpre : pre x) {env : List AV} {rows : List Row} {ctr low τ ver n : Nat} {z : Int} {k : AV → St → Prop}
    (hr : rows[τ]? = some ⟨ver, t, 1, (zs x).map (.int .i64)⟩) (hn : n = (zs x).length) (hz : z = m x) (hk : k (.int .i64 (r x)) ⟨env, setRows rows [τ] [(ws x).map (.int .i64)], ctr + 1, low⟩) :
    CallG P f ⟨env, rows, ctr, low⟩ [.ref τ ver 0 n, .int .i64 z] k := by
  subst hn; subst hz
  refine .inr ⟨[τ], _, hs, [.ref 0 0 0 (zs x).length, .int .i64 (m x)], [⟨0, t, 1, (zs x).map (.int .i64)⟩], by simp, ?_, ?_, x, rfl, rfl, hpre, ?_⟩
  · have e1 : callArg ⟨env, rows, ctr, low⟩ [τ] true (.ref τ ver 0 (zs x).length) = some (.ref 0 0 0 (zs x).length) := by
      simp [callArg, AV.ren, hr]
    have e2 : callArg ⟨env, rows, ctr, low⟩ [τ] false (.int .i64 (m x)) = some (.int .i64 (m x)) := rfl
    show (callArg ⟨env, rows, ctr, low⟩ [τ] true (.ref τ ver 0 (zs x).length)).bind _ = _
    rw [e1]
    rfl
  · simp [insOf, hr, protL_ren (protL_ints .i64 (zs x))]
  · rintro u ic news ⟨rfl, rfl, rfl⟩ _
    show k (.int .i64 (r x)) ⟨env, setRows rows [τ] [backL _ [τ] ((ws x).map (.int .i64))] ++ [], ctr + 1, low⟩
    rw [List.append_nil, protL_back (protL_ints _ _)]; exact hk
theorem retM {env : List AV} {ctr : Nat} {t : TypeId} {zs ws : List Int} {ver : Nat} {rest : List Row} {z z' : Int} (e : z = z') :
    RetB ⟨env, ⟨ver, t, 1, ws.map (.int .i64)⟩ :: rest, ctr, 1⟩ [⟨0, t, 1, zs.map (.int .i64)⟩] (fun u ic news => u = .int .i64 z' ∧ ic = [ws.map (.int .i64)] ∧ news = []) (.int .i64 z) := by
  refine RetB1.ret ⟨[], [⟨0, t, 1, ws.map (.int .i64)⟩], .int .i64 z, [ws.map (.int .i64)], [], by simp, ?_, rfl, rfl, rfl, by rw [e], rfl, rfl⟩
  show insOf _ [0] [0] = _
  simp [insOf, protL_ren (protL_ints .i64 ws)]
def fnLB {ι : Type} (t : TypeId) (args : ι → List AV) (pre : ι → Prop) (zs : ι → List Int) (b : ι → Bool) : CSpec :=
  { ι := ι, inout := [], args := args, ins := fun _ => [], pre := pre, post := fun x r ic news => r = .tup [.ref 0 0 0 (zs x).length, .bool (b x)] ∧ ic = [] ∧ news = [⟨0, t, 1, (zs x).map (.int .i64)⟩] }
theorem callLB_in {P : Program} {f : FuncId} {ι : Type} {t : TypeId} {args : ι → List AV} {pre : ι → Prop} {zs : ι → List Int} {b : ι → Bool} (hs : Sound P f (fnLB t args pre zs b)) (x : ι) (hpre : pre x) {env : List AV} {rows : List Row} {ctr low : Nat} {k : AV → St → Prop}
    (hk : k (.tup [.ref rows.length ctr 0 (zs x).length, .bool (b x)]) ⟨env, rows ++ [⟨ctr, t, 1, (zs x).map (.int .i64)⟩], ctr + 1, low⟩) :
    CallB P f ⟨env, rows, ctr, low⟩ (args x) k := callB_in (sp := fnLB t args pre zs b) hs rfl x rfl hpre (by
  rintro r news ⟨rfl, -, rfl⟩
  have : (AV.tup [AV.ref 0 0 0 (zs x).length, .bool (b x)]).back ⟨env, rows, ctr, low⟩ [] = .tup [.ref rows.length ctr 0 (zs x).length, .bool (b x)] := by simp [AV.back, backL, backT, backV]
  rw [this, news_ints]; exact hk)
theorem retLB {env : List AV} {rows : List Row} {ctr τ ver : Nat} {t : TypeId} {zs : List Int} {b b' : Bool} {r : Row} {n : Nat} (hr : rows[τ]? = some r) (hv : r.ver = ver) (e : r = ⟨ver, t, 1, zs.map (.int .i64)⟩) (hn : n = zs.length) (hb : b = b') :
    RetB ⟨env, rows, ctr, 0⟩ [] (fun r ic news => r = .tup [.ref 0 0 0 zs.length, .bool b'] ∧ ic = [] ∧ news = [⟨0, t, 1, zs.map (.int .i64)⟩]) (.tup [.ref τ ver 0 n, .bool b]) := by
  subst e; subst hn; subst hb
  exact ret_ref_val hr hv (protL_ints _ _) rfl ⟨rfl, rfl, rfl⟩
theorem avs1 {avs : List AV} {p : Nat → AV → Prop} (hl : avs.length = 1) (h : ∀ j av, avs[j]? = some av → p j av) : ∃ a, avs = [a] ∧ p 0 a := by
  match avs, hl with
  | [a], _ => exact ⟨a, rfl, h 0 a rfl⟩
end Go.Am
namespace Go.Am
open Go.RowKit
theorem news_rows2 {s : St} {T : List Nat} {v v' : Nat} {t t' : TypeId} {xs ys : List Int} : s.news T [⟨v, t, 1, xs.map (.int .i64)⟩, ⟨v', t', 1, ys.map (.int .i64)⟩] = [⟨s.ctr, t, 1, xs.map (.int .i64)⟩, ⟨s.ctr, t', 1, ys.map (.int .i64)⟩] := by
  simp [St.news, protL_back (protL_ints .i64 xs), protL_back (protL_ints .i64 ys)]
def fnP {ι : Type} (args : ι → List AV) (pre : ι → Prop) (post : ι → AV → List Row → Prop) : CSpec :=
  { ι := ι, inout := [], args := args, ins := fun _ => [], pre := pre, post := fun x r ic news => ic = [] ∧ post x r news }
theorem callP_in {P : Program} {f : FuncId} {ι : Type} {args : ι → List AV} {pre : ι → Prop} {post : ι → AV → List Row → Prop} (hs : Sound P f (fnP args pre post)) (x : ι) (hpre : pre x) {env : List AV} {rows : List Row} {ctr low : Nat} {k : AV → St → Prop}
    (hk : ∀ r news, post x r news → k (r.back ⟨env, rows, ctr, low⟩ []) ⟨env, rows ++ St.news ⟨env, rows, ctr, low⟩ [] news, ctr + 1, low⟩) : CallB P f ⟨env, rows, ctr, low⟩ (args x) k :=
  callB_in (sp := fnP args pre post) hs rfl x rfl hpre (by
    rintro r news ⟨-, h⟩
    exact hk r news h)
theorem retP1 {env : List AV} {rows : List Row} {ctr : Nat} {u r : AV} {L : List Nat} {news : List Row} {Q : AV → List Row → Prop} (hL : L.Nodup) (hn : insOf ⟨env, rows, ctr, 0⟩ L L = some news) (hr : u.ren ⟨env, rows, ctr, 0⟩ L = some r) (hq : Q r news) :
    RetB ⟨env, rows, ctr, 0⟩ [] (fun r ic news => ic = [] ∧ Q r news) u :=
  RetB1.ret ⟨L, news, r, [], news, by simpa using hL, by simpa using hn, by simpa using hr, rfl, rfl, rfl, hq⟩
theorem rem_range {x n : Int} (hx : 0 ≤ x) (hn : 0 < n) : 0 ≤ x.tmod n ∧ x.tmod n < n := ⟨Int.tmod_nonneg n hx, Int.tmod_lt_of_pos x hn⟩
theorem quo_range {x n : Int} (hx : 0 ≤ x) (hn : 0 ≤ n) : 0 ≤ x.tdiv n ∧ x.tdiv n ≤ x := ⟨Int.tdiv_nonneg hx hn, by
  obtain ⟨a, rfl⟩ : ∃ a : Nat, x = a := ⟨x.toNat, by omega⟩
  obtain ⟨b, rfl⟩ : ∃ b : Nat, n = b := ⟨n.toNat, by omega⟩
  rw [← Int.ofNat_tdiv]
  have := Nat.div_le_self a b
  omega⟩
end Go.Am
