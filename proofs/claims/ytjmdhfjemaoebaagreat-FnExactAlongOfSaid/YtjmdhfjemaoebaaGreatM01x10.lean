import Derived.Test.YtjmdhfjemaoebaaGreatM01x9
import Derived.ProofKit
namespace Go.Am
open Go.RowKit
theorem enters_of {P : Program} {f : FuncId} {fn : Func} (hf : P.funcs[f]? = some fn) (hn : (fn.name == "runtime.NumGoroutine") = false) (hb : fn.body.isSome = true) : Enters P f := fun args w => by
  have hn' : ¬ fn.name = "runtime.NumGoroutine" := by simpa using hn
  have hb' : ¬ fn.body = none := by intro e; rw [e] at hb; cases hb
  simp [callFunc, hf, hn', hb']
def NextB {ι : Type} (F : ι → St) (p : ι → Prop) (m : ι → Nat) (n : Nat) (s1 : St) : Prop := ∃ n' s2, n' < n ∧ s1.to s2 ∧ ∃ x, m x = n' ∧ p x ∧ s2 = F x
theorem next_to {ι : Type} {F : ι → St} {p : ι → Prop} {m : ι → Nat} {n : Nat} {s1 : St} (x : ι) (hm : m x < n) (hp : p x) (hle : s1.to (F x)) : NextB F p m n s1 := ⟨m x, F x, hm, hle, x, rfl, hp, rfl⟩
theorem next_in {ι : Type} {F : ι → St} {p : ι → Prop} {m : ι → Nat} {n : Nat} {s1 : St} (x : ι) (hm : m x < n) (hp : p x) (hle : s1.le (F x)) : NextB F p m n s1 := next_to x hm hp hle.to
theorem loop_to {body : (Exit → St → Prop) → St → Prop} {Q : Exit → St → Prop} {s : St} {ι : Type} (F : ι → St) (p : ι → Prop) (m : ι → Nat) (x0 : ι) (hp : p x0) (h0 : s.to (F x0))
    (hr : ∀ x, p x → body (aThen (NextB F p m (m x)) Q) (F x)) : aLoop body Q s := by
  refine ⟨fun n s' => ∃ x, m x = n ∧ p x ∧ s' = F x, ⟨m x0, F x0, h0, x0, rfl, hp, rfl⟩, ?_⟩
  rintro n s' ⟨x, rfl, hx, rfl⟩
  exact hr x hx
theorem loop_in {body : (Exit → St → Prop) → St → Prop} {Q : Exit → St → Prop} {s : St} {ι : Type} (F : ι → St) (p : ι → Prop) (m : ι → Nat) (x0 : ι) (hp : p x0) (h0 : s.le (F x0))
    (hr : ∀ x, p x → body (aThen (NextB F p m (m x)) Q) (F x)) : aLoop body Q s := loop_to F p m x0 hp h0.to hr
theorem to_close {s s' : St} (t j τ v n z : Nat) (e : TypeId) (r : Row) (cs : List AV) (hr : s.rows[t]? = some r) (hc : r.cells[j]? = some (.ref τ v 0 n)) (hτ : s.rows[τ]? = some ⟨v, e, z, cs⟩) (hne : t ≠ τ) (hlow : s.low ≤ τ) (hz : z ≠ 0) (hl : cs.length = n * z)
    (h : (s.closeAt t j τ r e z n cs).to s') : s.to s' := by
  obtain ⟨s1, h1, h2⟩ := h
  exact ⟨s1, .step s s1 t j τ v n z e r cs hr hc hτ hne hlow hz hl h1, h2⟩
theorem int_eq {k : IntKind} {a b : Int} (h : a = b) : AV.int k a = AV.int k b := by rw [h]
theorem bool_eq {a b : Bool} (h : (a = true) ↔ (b = true)) : AV.bool a = AV.bool b := by cases a <;> cases b <;> simp at h <;> rfl
theorem aIf_tt {b : Bool} {x y : Prop} (hb : b = true) (h : x) : aIf b x y := by subst hb; exact aIf_t h
theorem aIf_ff {b : Bool} {x y : Prop} (hb : b = false) (h : y) : aIf b x y := by subst hb; exact aIf_f h
theorem aIf_eqt {b : Bool} {x y : Prop} (h : aIf b x y) : aIf (b == true) x y := by cases b <;> exact h
theorem aIf_eqf {b : Bool} {x y : Prop} (h : aIf b y x) : aIf (b == false) x y := by
  cases b
  · exact ⟨fun _ => h.2 rfl, fun e => Bool.noConfusion e⟩
  · exact ⟨fun e => Bool.noConfusion e, fun _ => h.1 rfl⟩
theorem aIf_not {b : Bool} {x y : Prop} (h : aIf b y x) : aIf (!b) x y := by
  cases b
  · exact ⟨fun _ => h.2 rfl, fun e => Bool.noConfusion e⟩
  · exact ⟨fun e => Bool.noConfusion e, fun _ => h.1 rfl⟩
theorem aIf_dec {p : Prop} [Decidable p] {x y : Prop} (h : p → x) (h' : ¬ p → y) : aIf (decide p) x y := ⟨fun e => h (of_decide_eq_true e), fun e => h' (of_decide_eq_false e)⟩
theorem aIf_beq {a b : Int} {x y : Prop} (h : a = b → x) (h' : a ≠ b → y) : aIf (a == b) x y := ⟨fun e => h (by simpa using e), fun e => h' (by simpa using e)⟩
theorem aIf_bne {a b : Int} {x y : Prop} (h : a ≠ b → x) (h' : a = b → y) : aIf (a != b) x y := ⟨fun e => h (by simpa using e), fun e => h' (by simpa using e)⟩
theorem aIf_bself {a : Bool} {x y : Prop} (h' : y) : aIf (a != a) x y := ⟨fun e => by simp at e, fun _ => h'⟩
theorem aIf_iself {a : Int} {x y : Prop} (h' : y) : aIf (a != a) x y := ⟨fun e => by simp at e, fun _ => h'⟩
theorem aIf_beself {a : Bool} {x y : Prop} (h' : x) : aIf (a == a) x y := ⟨fun _ => h', fun e => by simp at e⟩
theorem aIf_bbne {a b : Bool} {x y : Prop} (h : a ≠ b → x) (h' : a = b → y) : aIf (a != b) x y := ⟨fun e => h (by simpa using e), fun e => h' (by simpa using e)⟩
theorem aIf_bbeq {a b : Bool} {x y : Prop} (h : a = b → x) (h' : a ≠ b → y) : aIf (a == b) x y := ⟨fun e => h (by simpa using e), fun e => h' (by simpa using e)⟩
theorem aIf_decself {α : Type} [DecidableEq α] {a : α} {x y : Prop} (h : x) : aIf (decide (a = a)) x y := ⟨fun _ => h, fun e => by simp at e⟩
theorem drop_get {zs : List Int} {kd : IntKind} {o : Nat} (h : o < zs.length) : ((zs.map (.int kd)).drop o)[0]? = some (AV.int kd (zs.getD o 0)) := by
  simp [List.getElem?_drop, List.getElem?_eq_getElem h, List.getD]
theorem get_nat {zs : List Int} {kd : IntKind} {k : Nat} {K : AV → Prop} (h : k < zs.length) (hK : K (.int kd (zs.getD k 0))) : aGet ((zs.map (.int kd)).drop ((k : Int).toNat * 1)) 0 K :=
  ⟨_, by rw [Int.toNat_natCast, Nat.mul_one]; exact drop_get h, hK⟩
theorem get_int {zs : List Int} {kd : IntKind} {i : Int} {K : AV → Prop} (h : 0 ≤ i ∧ i < zs.length) (hK : K (.int kd (zs.getD i.toNat 0))) : aGet ((zs.map (.int kd)).drop (i.toNat * 1)) 0 K :=
  ⟨_, by rw [Nat.mul_one]; exact drop_get (by omega), hK⟩
theorem get_nat0 {zs : List Int} {kd : IntKind} {k : Nat} {K : AV → Prop} (h : k < zs.length) (hK : K (.int kd (zs.getD k 0))) : aGet ((zs.map (.int kd)).drop (0 + (k : Int).toNat * 1)) 0 K := by
  rw [Nat.zero_add]; exact get_nat h hK
theorem get_int0 {zs : List Int} {kd : IntKind} {i : Int} {K : AV → Prop} (h : 0 ≤ i ∧ i < zs.length) (hK : K (.int kd (zs.getD i.toNat 0))) : aGet ((zs.map (.int kd)).drop (0 + i.toNat * 1)) 0 K := by
  rw [Nat.zero_add]; exact get_int h hK
theorem scalL_ints (k : IntKind) (zs : List Int) : scalL (zs.map (.int k)) = true := by
  simp only [scalL, List.all_map, List.all_eq_true]; intro x _; rfl
theorem cut_ints {kd : IntKind} {zs : List Int} {k : List AV → Prop} {f : Nat} (hk : k (zs.map (.int kd))) : aCut (f + 1) (zs.map (.int kd)) 0 (zs.length * 1) k := cut_all (by simp) (scalL_ints _ _) hk
theorem scalL_bools (zs : List Bool) : scalL (zs.map .bool) = true := by
  simp only [scalL, List.all_map, List.all_eq_true]; intro x _; rfl
theorem pureL_ints (k : IntKind) (zs : List Int) : pureL (zs.map (.int k)) = true := scalL_pure (scalL_ints k zs)
theorem pureL_bools (zs : List Bool) : pureL (zs.map .bool) = true := scalL_pure (scalL_bools zs)
theorem protL_ints (k : IntKind) (zs : List Int) : protL (zs.map (.int k)) = true := scalL_prot (scalL_ints k zs)
theorem ret_val {env : List AV} {rows : List Row} {ctr : Nat} {post : AV → List (List AV) → List Row → Prop} {u : AV} (hu : u.val.isSome = true) (hp : post u [] []) : RetB ⟨env, rows, ctr, 0⟩ [] post u :=
  RetB1.ret ⟨[], [], u, [], [], List.nodup_nil, rfl, prot_ren (scal_prot hu), rfl, rfl, hp⟩
theorem ret_ref {env : List AV} {rows : List Row} {ctr : Nat} {post : AV → List (List AV) → List Row → Prop} {τ ver off n : Nat} {r : Row} (hr : rows[τ]? = some r) (hv : r.ver = ver) (hs : protL r.cells = true) (hp : post (.ref 0 0 off n) [] [{ r with ver := 0 }]) : RetB ⟨env, rows, ctr, 0⟩ [] post (.ref τ ver off n) := by
  refine RetB1.ret ⟨[τ], [{ r with ver := 0 }], .ref 0 0 off n, [], [{ r with ver := 0 }], by simp, ?_, ?_, rfl, rfl, hp⟩
  · simp [insOf, hr, protL_ren hs]
  · simp [AV.ren, hr, hv]
theorem ret_ref_val {env : List AV} {rows : List Row} {ctr : Nat} {post : AV → List (List AV) → List Row → Prop} {τ ver off n : Nat} {r : Row} {u : AV} (hr : rows[τ]? = some r) (hv : r.ver = ver) (hs : protL r.cells = true) (hu : u.val.isSome = true) (hp : post (.tup [.ref 0 0 off n, u]) [] [{ r with ver := 0 }]) :
    RetB ⟨env, rows, ctr, 0⟩ [] post (.tup [.ref τ ver off n, u]) := by
  have e1 : ∀ s T, u.ren s T = some u := fun s T => prot_ren (scal_prot hu)
  refine RetB1.ret ⟨[τ], [{ r with ver := 0 }], .tup [.ref 0 0 off n, u], [], [{ r with ver := 0 }], by simp, ?_, ?_, rfl, rfl, hp⟩
  · simp [insOf, hr, protL_ren hs]
  · simp [AV.ren, renL, hr, hv, e1]
def fnS {ι : Type} (args : ι → List AV) (pre : ι → Prop) (u : ι → AV) : CSpec := { ι := ι, inout := [], args := args, ins := fun _ => [], pre := pre, post := fun x r ic news => r = u x ∧ ic = [] ∧ news = [] }
def fnL {ι : Type} (t : TypeId) (args : ι → List AV) (pre : ι → Prop) (zs : ι → List Int) : CSpec :=
  { ι := ι, inout := [], args := args, ins := fun _ => [], pre := pre, post := fun x r ic news => r = .ref 0 0 0 (zs x).length ∧ ic = [] ∧ news = [⟨0, t, 1, (zs x).map (.int .i64)⟩] }
theorem news_ints (env : List AV) (rows : List Row) (ctr low : Nat) (T : List Nat) (t : TypeId) (k : IntKind) (zs : List Int) : (⟨env, rows, ctr, low⟩ : St).news T [⟨0, t, 1, zs.map (.int k)⟩] = [⟨ctr, t, 1, zs.map (.int k)⟩] := by
  simp [St.news, protL_back (protL_ints k zs)]
theorem back_new (env : List AV) (rows : List Row) (ctr low off n : Nat) : (AV.ref 0 0 off n).back ⟨env, rows, ctr, low⟩ [] = .ref rows.length ctr off n := by
  simp [AV.back, backT, backV]
theorem callS_in {P : Program} {f : FuncId} {ι : Type} {args : ι → List AV} {pre : ι → Prop} {u : ι → AV} (hs : Sound P f (fnS args pre u)) (x : ι) (hpre : pre x) (hu : (u x).val.isSome = true) {env : List AV} {rows : List Row} {ctr low : Nat} {k : AV → St → Prop} (hk : k (u x) ⟨env, rows, ctr + 1, low⟩) :
    CallB P f ⟨env, rows, ctr, low⟩ (args x) k := callB_in (sp := fnS args pre u) hs rfl x rfl hpre (by
  rintro r news ⟨rfl, -, rfl⟩
  show k ((u x).back _ []) ⟨env, rows ++ [], ctr + 1, low⟩
  rw [prot_back (scal_prot hu), List.append_nil]; exact hk)
theorem callL_in {P : Program} {f : FuncId} {ι : Type} {t : TypeId} {args : ι → List AV} {pre : ι → Prop} {zs : ι → List Int} (hs : Sound P f (fnL t args pre zs)) (x : ι) (hpre : pre x) {env : List AV} {rows : List Row} {ctr low : Nat} {k : AV → St → Prop}
    (hk : k (.ref rows.length ctr 0 (zs x).length) ⟨env, rows ++ [⟨ctr, t, 1, (zs x).map (.int .i64)⟩], ctr + 1, low⟩) :
    CallB P f ⟨env, rows, ctr, low⟩ (args x) k := callB_in (sp := fnL t args pre zs) hs rfl x rfl hpre (by
  rintro r news ⟨rfl, -, rfl⟩
  rw [back_new, news_ints]; exact hk)
theorem retS {env : List AV} {rows : List Row} {ctr : Nat} {u u' : AV} (hu : u.val.isSome = true) (e : u = u') : RetB ⟨env, rows, ctr, 0⟩ [] (fun r ic news => r = u' ∧ ic = [] ∧ news = []) u := ret_val hu ⟨e, rfl, rfl⟩
theorem retL {env : List AV} {rows : List Row} {ctr τ ver : Nat} {t : TypeId} {zs : List Int} {r : Row} {n : Nat} (hr : rows[τ]? = some r) (hv : r.ver = ver) (e : r = ⟨ver, t, 1, zs.map (.int .i64)⟩) (hn : n = zs.length) :
    RetB ⟨env, rows, ctr, 0⟩ [] (fun r ic news => r = .ref 0 0 0 zs.length ∧ ic = [] ∧ news = [⟨0, t, 1, zs.map (.int .i64)⟩]) (.ref τ ver 0 n) := by
  subst e; subst hn
  exact ret_ref hr hv (protL_ints _ _) ⟨rfl, rfl, rfl⟩
theorem set_nat {ws : List Int} {kd : IntKind} {k : Nat} {z : Int} {K : List AV → Prop} (hK : K ((ws.set k z).map (.int kd))) (h : k < ws.length) : aSet (ws.map (.int kd)) (0 + (k : Int).toNat * 1) [.int kd z] K := by
  have : (ws.map (AV.int kd)).take (0 + (k : Int).toNat * 1) ++ ([AV.int kd z] ++ (ws.map (AV.int kd)).drop (0 + (k : Int).toNat * 1 + [AV.int kd z].length)) = (ws.set k z).map (.int kd) := by
    rw [List.map_set, List.set_eq_take_append_cons_drop, if_pos (by simpa using h)]
    simp
  unfold aSet; rw [this]; exact hK
theorem set_int {ws : List Int} {kd : IntKind} {i : Int} {z : Int} {K : List AV → Prop} (hK : K ((ws.set i.toNat z).map (.int kd))) (h : 0 ≤ i ∧ i < ws.length) : aSet (ws.map (.int kd)) (0 + i.toNat * 1) [.int kd z] K := by
  obtain ⟨n, rfl⟩ : ∃ n : Nat, i = n := ⟨i.toNat, by omega⟩
  rw [Int.toNat_natCast] at hK
  exact set_nat hK (by omega)
theorem get_bool0 {bs : List Bool} {i : Int} {K : AV → Prop} (h : 0 ≤ i ∧ i < bs.length) (hK : K (.bool (bs.getD i.toNat false))) : aGet ((bs.map .bool).drop (0 + i.toNat * 1)) 0 K := by
  have h' : i.toNat < bs.length := by omega
  exact ⟨_, by rw [Nat.zero_add, Nat.mul_one]; simp [List.getElem?_drop, List.getElem?_eq_getElem h', List.getD], hK⟩
theorem set_bool {bs : List Bool} {i : Int} {b : Bool} {K : List AV → Prop} (hK : K ((bs.set i.toNat b).map .bool)) (h : 0 ≤ i ∧ i < bs.length) : aSet (bs.map .bool) (0 + i.toNat * 1) [.bool b] K := by
  have h' : i.toNat < bs.length := by omega
  have : (bs.map AV.bool).take (0 + i.toNat * 1) ++ ([AV.bool b] ++ (bs.map AV.bool).drop (0 + i.toNat * 1 + [AV.bool b].length)) = (bs.set i.toNat b).map .bool := by
    rw [List.map_set, List.set_eq_take_append_cons_drop, if_pos (by simpa using h')]
    simp
  unfold aSet; rw [this]; exact hK
theorem rep_bools (n : Nat) : rep n [.bool false] = (List.replicate n false).map .bool := by
  rw [List.map_replicate]; rfl
theorem le_bools {cs : List AV} {zs : List Bool} {p : Prop} (h : cs = zs.map .bool) : (pureL cs = true ∧ zs.map .bool = cs) ∨ p := .inl ⟨by rw [h]; exact pureL_bools _, h.symm⟩
theorem set_force {cells : List AV} {off : Nat} {us : List AV} {K : List AV → Prop} (hK : forceL (cells.take off ++ (us ++ cells.drop (off + us.length))) K) : aSet cells off us K := by
  rw [forceL_eq] at hK; exact hK
theorem rep_ints (n : Nat) (kd : IntKind) : rep n [.int kd 0] = (List.replicate n (0 : Int)).map (.int kd) := by
  rw [List.map_replicate]; rfl
theorem le_ints {cs : List AV} {kd : IntKind} {zs : List Int} {p : Prop} (h : cs = zs.map (.int kd)) : (pureL cs = true ∧ zs.map (.int kd) = cs) ∨ p := .inl ⟨by rw [h]; exact pureL_ints _ _, h.symm⟩
theorem getD_ext {xs ys : List Int} (hl : xs.length = ys.length) (h : ∀ j, j < ys.length → xs.getD j 0 = ys.getD j 0) : xs = ys := by
  apply List.ext_getElem hl
  intro j h1 h2
  have := h j h2
  simpa [List.getD, List.getElem?_eq_getElem h1, List.getElem?_eq_getElem h2] using this
theorem getD_set {ws : List Int} {k j : Nat} {z : Int} (h : k < ws.length) : (ws.set k z).getD j 0 = if k = j then z else ws.getD j 0 := by
  simp only [List.getD, List.getElem?_set]
  by_cases e : k = j
  · subst e; simp [h]
  · simp [e]
theorem bytes_le {x b : Nat} {l m : Int} (h : x = b) (h' : (b : Int) * l ≤ m) : (x : Int) * l ≤ m := by subst h; exact h'
def fnM {ι : Type} (t : TypeId) (zs : ι → List Int) (m : ι → Int) (pre : ι → Prop) (r : ι → Int) (ws : ι → List Int) : CSpec :=
  { ι := ι, inout := [true], args := fun x => [.ref 0 0 0 (zs x).length, .int .i64 (m x)], ins := fun x => [⟨0, t, 1, (zs x).map (.int .i64)⟩], pre := pre, post := fun x u ic news => u = .int .i64 (r x) ∧ ic = [(ws x).map (.int .i64)] ∧ news = [] }
theorem callM_in {P : Program} {f : FuncId} {ι : Type} {t : TypeId} {zs : ι → List Int} {m : ι → Int} {pre : ι → Prop} {r : ι → Int} {ws : ι → List Int} (hs : Sound P f (fnM t zs m pre r ws)) (x : ι) (hpre : pre x) {env : List AV} {rows : List Row} {ctr low τ ver n : Nat} {z : Int} {k : AV → St → Prop}
    (hr : rows[τ]? = some ⟨ver, t, 1, (zs x).map (.int .i64)⟩) (hn : n = (zs x).length) (hz : z = m x) (hk : k (.int .i64 (r x)) ⟨env, setRows rows [τ] [(ws x).map (.int .i64)], ctr + 1, low⟩) :
    CallG P f ⟨env, rows, ctr, low⟩ [.ref τ ver 0 n, .int .i64 z] k := by
  subst hn; subst hz
  refine .inr ⟨[τ], _, hs, [.ref 0 0 0 (zs x).length, .int .i64 (m x)], [⟨0, t, 1, (zs x).map (.int .i64)⟩], by simp, ?_, ?_, x, rfl, rfl, hpre, ?_⟩
  · have e1 : callArg ⟨env, rows, ctr, low⟩ [τ] true (.ref τ ver 0 (zs x).length) = some (.ref 0 0 0 (zs x).length) := by
      simp [callArg, AV.ren, hr]
    have e2 : callArg ⟨env, rows, ctr, low⟩ [τ] false (.int .i64 (m x)) = some (.int .i64 (m x)) := rfl
    show (callArg ⟨env, rows, ctr, low⟩ [τ] true (.ref τ ver 0 (zs x).length)).bind _ = _
    rw [e1]
    rfl
  · simp [insOf, hr, protL_ren (protL_ints .i64 (zs x))]
  · rintro u ic news ⟨rfl, rfl, rfl⟩ _
    show k (.int .i64 (r x)) ⟨env, setRows rows [τ] [backL _ [τ] ((ws x).map (.int .i64))] ++ [], ctr + 1, low⟩
    rw [List.append_nil, protL_back (protL_ints _ _)]; exact hk
theorem retM {env : List AV} {ctr : Nat} {t : TypeId} {zs ws : List Int} {ver : Nat} {rest : List Row} {z z' : Int} (e : z = z') :
    RetB ⟨env, ⟨ver, t, 1, ws.map (.int .i64)⟩ :: rest, ctr, 1⟩ [⟨0, t, 1, zs.map (.int .i64)⟩] (fun u ic news => u = .int .i64 z' ∧ ic = [ws.map (.int .i64)] ∧ news = []) (.int .i64 z) := by
  refine RetB1.ret ⟨[], [⟨0, t, 1, ws.map (.int .i64)⟩], .int .i64 z, [ws.map (.int .i64)], [], by simp, ?_, rfl, rfl, rfl, by rw [e], rfl, rfl⟩
  show insOf _ [0] [0] = _
  simp [insOf, protL_ren (protL_ints .i64 ws)]
def fnLB {ι : Type} (t : TypeId) (args : ι → List AV) (pre : ι → Prop) (zs : ι → List Int) (b : ι → Bool) : CSpec :=
  { ι := ι, inout := [], args := args, ins := fun _ => [], pre := pre, post := fun x r ic news => r = .tup [.ref 0 0 0 (zs x).length, .bool (b x)] ∧ ic = [] ∧ news = [⟨0, t, 1, (zs x).map (.int .i64)⟩] }
theorem callLB_in {P : Program} {f : FuncId} {ι : Type} {t : TypeId} {args : ι → List AV} {pre : ι → Prop} {zs : ι → List Int} {b : ι → Bool} (hs : Sound P f (fnLB t args pre zs b)) (x : ι) (hpre : pre x) {env : List AV} {rows : List Row} {ctr low : Nat} {k : AV → St → Prop}
    (hk : k (.tup [.ref rows.length ctr 0 (zs x).length, .bool (b x)]) ⟨env, rows ++ [⟨ctr, t, 1, (zs x).map (.int .i64)⟩], ctr + 1, low⟩) :
    CallB P f ⟨env, rows, ctr, low⟩ (args x) k := callB_in (sp := fnLB t args pre zs b) hs rfl x rfl hpre (by
  rintro r news ⟨rfl, -, rfl⟩
  have : (AV.tup [AV.ref 0 0 0 (zs x).length, .bool (b x)]).back ⟨env, rows, ctr, low⟩ [] = .tup [.ref rows.length ctr 0 (zs x).length, .bool (b x)] := by simp [AV.back, backL, backT, backV]
  rw [this, news_ints]; exact hk)
theorem retLB {env : List AV} {rows : List Row} {ctr τ ver : Nat} {t : TypeId} {zs : List Int} {b b' : Bool} {r : Row} {n : Nat} (hr : rows[τ]? = some r) (hv : r.ver = ver) (e : r = ⟨ver, t, 1, zs.map (.int .i64)⟩) (hn : n = zs.length) (hb : b = b') :
    RetB ⟨env, rows, ctr, 0⟩ [] (fun r ic news => r = .tup [.ref 0 0 0 zs.length, .bool b'] ∧ ic = [] ∧ news = [⟨0, t, 1, zs.map (.int .i64)⟩]) (.tup [.ref τ ver 0 n, .bool b]) := by
  subst e; subst hn; subst hb
  exact ret_ref_val hr hv (protL_ints _ _) rfl ⟨rfl, rfl, rfl⟩
theorem avs2 {avs : List AV} {p : Nat → AV → Prop} (hl : avs.length = 2) (h : ∀ j av, avs[j]? = some av → p j av) : ∃ a b, avs = [a, b] ∧ p 0 a ∧ p 1 b := by
  match avs, hl with
  | [a, b], _ => exact ⟨a, b, rfl, h 0 a rfl, h 1 b rfl⟩
theorem avs3 {avs : List AV} {p : Nat → AV → Prop} (hl : avs.length = 3) (h : ∀ j av, avs[j]? = some av → p j av) : ∃ a b c, avs = [a, b, c] ∧ p 0 a ∧ p 1 b ∧ p 2 c := by
  match avs, hl with
  | [a, b, c], _ => exact ⟨a, b, c, rfl, h 0 a rfl, h 1 b rfl, h 2 c rfl⟩
end Go.Am
namespace Go.Am
open Go.RowKit
theorem pureL_box (bs : List Int) (p : Int) : pureL [.sl 1 bs.length (bs.map (.int .u8)), .int .i64 p] = true := by
  simp [pureL, AV.pure, pureL_ints]
theorem news_rows2 {s : St} {T : List Nat} {v v' : Nat} {t t' : TypeId} {xs ys : List Int} : s.news T [⟨v, t, 1, xs.map (.int .i64)⟩, ⟨v', t', 1, ys.map (.int .i64)⟩] = [⟨s.ctr, t, 1, xs.map (.int .i64)⟩, ⟨s.ctr, t', 1, ys.map (.int .i64)⟩] := by
  simp [St.news, protL_back (protL_ints .i64 xs), protL_back (protL_ints .i64 ys)]
def fnP {ι : Type} (args : ι → List AV) (pre : ι → Prop) (post : ι → AV → List Row → Prop) : CSpec :=
  { ι := ι, inout := [], args := args, ins := fun _ => [], pre := pre, post := fun x r ic news => ic = [] ∧ post x r news }
theorem callP_in {P : Program} {f : FuncId} {ι : Type} {args : ι → List AV} {pre : ι → Prop} {post : ι → AV → List Row → Prop} (hs : Sound P f (fnP args pre post)) (x : ι) (hpre : pre x) {env : List AV} {rows : List Row} {ctr low : Nat} {k : AV → St → Prop}
    (hk : ∀ r news, post x r news → k (r.back ⟨env, rows, ctr, low⟩ []) ⟨env, rows ++ St.news ⟨env, rows, ctr, low⟩ [] news, ctr + 1, low⟩) : CallB P f ⟨env, rows, ctr, low⟩ (args x) k :=
  callB_in (sp := fnP args pre post) hs rfl x rfl hpre (by
    rintro r news ⟨-, h⟩
    exact hk r news h)
theorem retP1 {env : List AV} {rows : List Row} {ctr : Nat} {u r : AV} {L : List Nat} {news : List Row} {Q : AV → List Row → Prop} (hL : L.Nodup) (hn : insOf ⟨env, rows, ctr, 0⟩ L L = some news) (hr : u.ren ⟨env, rows, ctr, 0⟩ L = some r) (hq : Q r news) :
    RetB ⟨env, rows, ctr, 0⟩ [] (fun r ic news => ic = [] ∧ Q r news) u :=
  RetB1.ret ⟨L, news, r, [], news, by simpa using hL, by simpa using hn, by simpa using hr, rfl, rfl, rfl, hq⟩
theorem rem_range {x n : Int} (hx : 0 ≤ x) (hn : 0 < n) : 0 ≤ x.tmod n ∧ x.tmod n < n := ⟨Int.tmod_nonneg n hx, Int.tmod_lt_of_pos x hn⟩
theorem quo_range {x n : Int} (hx : 0 ≤ x) (hn : 0 ≤ n) : 0 ≤ x.tdiv n ∧ x.tdiv n ≤ x := ⟨Int.tdiv_nonneg hx hn, by
  obtain ⟨a, rfl⟩ : ∃ a : Nat, x = a := ⟨x.toNat, by omega⟩
  obtain ⟨b, rfl⟩ : ∃ b : Nat, n = b := ⟨n.toNat, by omega⟩
  rw [← Int.ofNat_tdiv]
  have := Nat.div_le_self a b
  omega⟩
end Go.Am
namespace Go.Am
open Go.RowKit Go.WideShapes Go.ChangeShapes
inductive CellsOk (P : Program) : TypeId → List AV → Prop
  | int (t : TypeId) (k : IntKind) (n : Int) (ht : P.underlying t = some (.int k)) (hn : (Lit.int k n).wf = true) : CellsOk P t [.int k n]
  | bool (t : TypeId) (b : Bool) (ht : P.underlying t = some .bool) : CellsOk P t [.bool b]
  | str (t : TypeId) (s : ByteArray) (ht : P.underlying t = some .string) (hs : s.size ≤ maxLen) : CellsOk P t [.str s]
  | sl (t e : TypeId) (es : List (List AV)) (ht : P.underlying t = some (.slice e)) (hz : ∀ us ∈ es, us.length = P.cellsOf e) (hes : ∀ us ∈ es, CellsOk P e us) : CellsOk P t [.sl 1 es.length es.flatten]
  | struct (t : TypeId) (fs : Array Field) (us : List AV) (ht : P.underlying t = some (.struct fs)) (hl : us.length = P.cellsOf t) (hf : ∀ f ∈ fs.toList, CellsOk P f.type ((us.drop f.offset).take (P.cellsOf f.type))) : CellsOk P t us
def tiles (P : Program) : List Field → Nat → Nat → Bool
  | [], off, tot => off == tot
  | f :: fs, off, tot => f.offset == off && tiles P fs (off + P.cellsOf f.type) tot
def opensT (P : Program) : Nat → TypeId → Bool
  | 0, _ => false
  | n + 1, t =>
    match P.underlying t with
    | some (.int _) => true
    | some .bool => true
    | some .string => true
    | some (.slice e) => P.cellsOf e != 0 && opensT P n e
    | some (.struct fs) => tiles P fs.toList 0 (P.cellsOf t) && fs.toList.all fun f => opensT P n f.type
    | _ => false
section
variable {H : Type} {enc : TypeId × Value → H} {P : Program} {W : World}
abbrev Opened (P : Program) (W : World) (t : TypeId) (cs : List Value) (us : List AV) : Prop :=
  us.length = cs.length ∧ CellsOk P t us ∧ ∀ (j : Nat) (v : Value) (u : AV), cs[j]? = some v → us[j]? = some u → v.oneCell' = true ∧ VR (fun b => b < W.heap.size) W noPl [] 1 v u
theorem flatten_get {α : Type} {z : Nat} : ∀ (es : List (List α)) (_ : ∀ us ∈ es, us.length = z) (i r : Nat), r < z → es.flatten[i * z + r]? = (es[i]?).bind (·[r]?)
  | [], _, i, r, _ => by simp
  | us :: es, h, 0, r, hr => by
    have hl := h us (by simp)
    rw [Nat.zero_mul, Nat.zero_add, List.flatten_cons, List.getElem?_append_left (by omega)]
    rfl
  | us :: es, h, i + 1, r, hr => by
    have hl := h us (by simp)
    have e : (i + 1) * z + r = us.length + (i * z + r) := by rw [Nat.add_mul, Nat.one_mul, hl]; omega
    rw [List.flatten_cons, e, List.getElem?_append_right (by omega), Nat.add_sub_cancel_left]
    simpa using flatten_get es (fun x hx => h x (by simp [hx])) i r hr
theorem flatten_length {α : Type} {z : Nat} : ∀ (es : List (List α)) (_ : ∀ us ∈ es, us.length = z), es.flatten.length = es.length * z
  | [], _ => by simp
  | us :: es, h => by
    rw [List.flatten_cons, List.length_append, flatten_length es (fun x hx => h x (by simp [hx])), h us (by simp), List.length_cons, Nat.add_mul, Nat.one_mul, Nat.add_comm]
theorem fields_open {cs : List Value} {tot : Nat} (htot : cs.length = tot) : ∀ (fs : List Field) (off : Nat), tiles P fs off tot = true →
    (∀ f ∈ fs, ∃ us, Opened P W f.type ((cs.drop f.offset).take (P.cellsOf f.type)) us) →
    off ≤ tot → ∃ us : List AV, us.length = tot - off ∧ (∀ f ∈ fs, off ≤ f.offset ∧ CellsOk P f.type ((us.drop (f.offset - off)).take (P.cellsOf f.type))) ∧
      ∀ (j : Nat) (v : Value) (u : AV), cs[off + j]? = some v → us[j]? = some u → v.oneCell' = true ∧ VR (fun b => b < W.heap.size) W noPl [] 1 v u
  | [], off, ht, _, _ => by
    simp only [tiles, beq_iff_eq] at ht
    subst ht
    exact ⟨[], by simp, fun f hf => by simp at hf, fun j v u _ hu => by simp at hu⟩
  | f :: fs, off, ht, hf, hle => by
    simp only [tiles, Bool.and_eq_true, beq_iff_eq] at ht
    obtain ⟨ho, ht⟩ := ht
    have hle' : off + P.cellsOf f.type ≤ tot := by
      have : ∀ (fs : List Field) (off : Nat), tiles P fs off tot = true → off ≤ tot := by
        intro fs
        induction fs with
        | nil => intro off h; simp only [tiles, beq_iff_eq] at h; omega
        | cons g gs ih => intro off h; simp only [tiles, Bool.and_eq_true, beq_iff_eq] at h; have := ih _ h.2; omega
      exact this fs _ ht
    obtain ⟨us, a1, a2, a3⟩ := hf f (by simp)
    have hl : us.length = P.cellsOf f.type := by rw [a1, List.length_take, List.length_drop]; omega
    obtain ⟨us', b1, b2, b3⟩ := fields_open htot fs (off + P.cellsOf f.type) ht (fun g hg => hf g (by simp [hg])) hle'
    refine ⟨us ++ us', by rw [List.length_append]; omega, fun g hg => ?_, fun j v u hv hu => ?_⟩
    · rcases List.mem_cons.1 hg with rfl | hg
      · refine ⟨by omega, ?_⟩
        rw [ho, Nat.sub_self, List.drop_zero, List.take_append_of_le_length (by omega), List.take_of_length_le (by omega)]
        exact a2
      · obtain ⟨c1, c2⟩ := b2 g hg
        refine ⟨by omega, ?_⟩
        have e : g.offset - off = us.length + (g.offset - (off + P.cellsOf f.type)) := by omega
        rw [e, ← List.drop_drop, List.drop_left]
        exact c2
    · by_cases hj : j < us.length
      · rw [List.getElem?_append_left hj] at hu
        refine a3 j v u ?_ hu
        rw [List.getElem?_take, if_pos (by omega), List.getElem?_drop, ho]
        exact hv
      · rw [List.getElem?_append_right (by omega)] at hu
        refine b3 (j - us.length) v u ?_ hu
        rw [show off + P.cellsOf f.type + (j - us.length) = off + j by omega]
        exact hv
theorem cells_open : ∀ (n fuel : Nat) (t : TypeId) (cs : List Value) (x : DataW H × List MemPlace), opensT P n t = true → DataW.trod enc P W 0 (fun _ => true) true fuel t cs = some x → (∀ p ∈ x.2, p.block < W.heap.size) → ∃ us, Opened P W t cs us
  | 0, fuel, t, cs, x, ho, _, _ => by simp [opensT] at ho
  | n + 1, fuel, t, cs, x, ho, h, hlt => by
    unfold opensT at ho
    split at ho
    · rename_i k ht
      obtain ⟨m, rfl, rfl, hw⟩ := DataW.trod_int ht h
      refine ⟨[.int k m], rfl, .int t k m ht hw, fun j v u hv hu => ?_⟩
      cases j with
      | zero => simp at hv hu; subst hv; subst hu; exact ⟨rfl, .int _ _⟩
      | succ j => simp at hv
    · rename_i ht
      cases fuel with
      | zero => simp [DataW.trod] at h
      | succ fuel =>
        unfold DataW.trod at h
        rw [ht] at h
        split at h <;> simp_all
        rename_i b
        exact ⟨[.bool b], rfl, .bool t b ht, fun j v u hv hu => by
          cases j with
          | zero => simp at hv hu; subst hv; subst hu; exact ⟨rfl, .bool _⟩
          | succ j => simp at hv⟩
    · rename_i ht
      cases fuel with
      | zero => simp [DataW.trod] at h
      | succ fuel =>
        unfold DataW.trod at h
        rw [ht] at h
        split at h <;> simp_all
        rename_i s
        obtain ⟨hs, _⟩ := h
        exact ⟨[.str s], rfl, .str t s ht hs, fun j v u hv hu => by
          cases j with
          | zero => simp at hv hu; subst hv; subst hu; exact ⟨rfl, .str _⟩
          | succ j => simp at hv⟩
    · rename_i e ht
      simp only [Bool.and_eq_true, bne_iff_ne, ne_eq] at ho
      obtain ⟨hz, ho⟩ := ho
      rcases DataW.trod_slice ht h with ⟨rfl, rfl⟩ | ⟨a, len, cap, elems, rest, m, rfl, rfl, rfl, hb, hl, hm, hlen, hel, _, _⟩
      · refine ⟨[.sl 1 0 []], rfl, .sl t e [] ht (fun us h => by simp at h) (fun us h => by simp at h), fun j v u hv hu => ?_⟩
        cases j with
        | zero => simp at hv hu; subst hv; subst hu; exact ⟨rfl, .sl0 none 0 1 (Nat.zero_le _)⟩
        | succ j => simp at hv
      · have each : ∀ i : Nat, ∃ us, i < len → ∃ cs', W.cells? 0 (a.add (i * P.cellsOf e)) (P.cellsOf e) = some cs' ∧ Opened P W e cs' us := fun i => by
          by_cases hi : i < len
          · have h1 := hel i hi
            have h2 : elems[i]? = some (elems[i]'(by omega)) := List.getElem?_eq_getElem _
            rw [h2, Option.bind_eq_some_iff] at h1
            obtain ⟨cs', c1, c2⟩ := h1
            obtain ⟨us, hus⟩ := cells_open n m e cs' _ ho c2 (fun p hp => hlt p (List.mem_append.2 (.inr (List.mem_flatMap.2 ⟨_, List.mem_append.2 (.inl (List.getElem_mem _)), hp⟩))))
            exact ⟨us, fun _ => ⟨cs', c1, hus⟩⟩
          · exact ⟨[], fun h => absurd h hi⟩
        let f : Nat → List AV := fun i => Classical.choose (each i)
        have hf := fun i => Classical.choose_spec (each i)
        let es := (List.range len).map f
        have hesl : es.length = len := by simp [es]
        have hmem : ∀ us ∈ es, ∃ i, i < len ∧ us = f i := fun us hu => by
          simp only [es, List.mem_map, List.mem_range] at hu
          obtain ⟨i, hi, rfl⟩ := hu
          exact ⟨i, hi, rfl⟩
        have hzl : ∀ us ∈ es, us.length = P.cellsOf e := fun us hu => by
          obtain ⟨i, hi, rfl⟩ := hmem us hu
          obtain ⟨cs', c1, c2, _⟩ := hf i hi
          have := (World.cells?_some c1).2.1
          show (Classical.choose (each i)).length = _
          omega
        have hok : CellsOk P t [.sl 1 es.length es.flatten] := .sl t e es ht hzl fun us hu => by
          obtain ⟨i, hi, rfl⟩ := hmem us hu
          obtain ⟨cs', c1, _, c2, _⟩ := hf i hi
          exact c2
        rw [hesl] at hok
        refine ⟨[.sl 1 len es.flatten], rfl, hok, fun j v u hv hu => ?_⟩
        cases j with
        | succ j => simp at hv
        | zero =>
          simp at hv hu
          subst hv; subst hu
          refine ⟨rfl, ?_⟩
          by_cases h0 : len = 0
          · subst h0
            have : es.flatten = [] := by
              have : es = [] := List.eq_nil_of_length_eq_zero hesl
              rw [this]; rfl
            rw [this]
            exact .sl0 (some a) cap 1 hm
          · have hfl : es.flatten.length = len * P.cellsOf e := by rw [flatten_length es hzl, hesl]
            have cell : ∀ j, j < len * P.cellsOf e → ∃ v u, W.cell? (a.add j) = some v ∧ es.flatten[j]? = some u ∧ v.oneCell' = true ∧ VR (fun b => b < W.heap.size) W noPl [] 1 v u := fun j hj => by
              have hzp : 0 < P.cellsOf e := by omega
              have hi : j / P.cellsOf e < len := (Nat.div_lt_iff_lt_mul hzp).2 hj
              have hr : j % P.cellsOf e < P.cellsOf e := Nat.mod_lt _ hzp
              have hj' : j = j / P.cellsOf e * P.cellsOf e + j % P.cellsOf e := by rw [Nat.mul_comm]; exact (Nat.div_add_mod _ _).symm
              obtain ⟨cs', c1, c2, c3, c4⟩ := hf (j / P.cellsOf e) hi
              obtain ⟨_, d1, d2⟩ := World.cells?_some c1
              have hu : (Classical.choose (each (j / P.cellsOf e)))[j % P.cellsOf e]? = some ((Classical.choose (each (j / P.cellsOf e)))[j % P.cellsOf e]'(by omega)) := List.getElem?_eq_getElem _
              have hv : cs'[j % P.cellsOf e]? = some (cs'[j % P.cellsOf e]'(by omega)) := List.getElem?_eq_getElem _
              obtain ⟨e1, e2⟩ := c4 _ _ _ hv hu
              refine ⟨_, _, ?_, ?_, e1, e2⟩
              · rw [← hv, ← d2 _ hr, add_of_add, ← hj']
              · rw [← hu]
                conv => lhs; rw [hj']
                rw [flatten_get es hzl _ _ hr]
                have : es[j / P.cellsOf e]? = some (f (j / P.cellsOf e)) := by simp [es, List.getElem?_range hi]
                rw [this]; rfl
            have hblk : a.block < W.heap.size := by
              obtain ⟨cs', c1, _⟩ := hf 0 (by omega)
              have := World.cells?_block c1 (by omega)
              rwa [block_of_add] at this
            have hspot : a.spot = none := by
              obtain ⟨v, u, h1, _⟩ := cell 0 (Nat.mul_pos (by omega) (by omega))
              have h2 : a.add 0 = a := by simp [Addr.add]
              rw [h2] at h1
              exact World.cell?_spot h1
            refine .sl a 1 len cap es.flatten ((List.range (len * P.cellsOf e)).map fun j => (W.cell? (a.add j)).getD undef) hspot (fun h => h) (fun _ => hblk) hblk hl hm (by simp [hfl]) (fun j hj => ?_) (fun v hv => ?_) (fun j v u hv hu => ?_)
            · have hj' : j < len * P.cellsOf e := by simpa using hj
              obtain ⟨v, u, h1, _⟩ := cell j hj'
              simp [hj', h1]
            · simp only [List.mem_map, List.mem_range] at hv
              obtain ⟨j, hj, rfl⟩ := hv
              obtain ⟨v, u, h1, _, h3, _⟩ := cell j hj
              simp [h1, h3]
            · have hj : j < len * P.cellsOf e := by
                have := (List.getElem?_eq_some_iff.1 hv).1
                simpa using this
              obtain ⟨v', u', h1, h2, _, h4⟩ := cell j hj
              rw [h2] at hu; cases hu
              simp [hj, h1] at hv
              subst hv
              exact h4
    · rename_i fs ht
      simp only [Bool.and_eq_true] at ho
      obtain ⟨hti, ho⟩ := ho
      obtain ⟨xs, m, rfl, rfl, hl, hlen, hfs⟩ := DataW.trod_struct ht h
      obtain ⟨us, a1, a2, a3⟩ := fields_open (P := P) (W := W) hl fs.toList 0 hti (fun f hf => by
        obtain ⟨i, hi⟩ := List.getElem?_of_mem hf
        have hi' : fs[i]? = some f := by simpa using hi
        have hil : i < xs.length := by rw [hlen]; exact (Array.getElem?_eq_some_iff.1 hi').1
        have h1 := hfs i f hi'
        have h2 : xs[i]? = some xs[i] := List.getElem?_eq_getElem hil
        rw [h2] at h1
        exact cells_open n m f.type _ _ (by rw [List.all_eq_true] at ho; exact ho f hf) h1 (fun p hp => hlt p (List.mem_flatMap.2 ⟨_, List.getElem_mem hil, hp⟩))) (Nat.zero_le _)
      refine ⟨us, by omega, .struct t fs us ht (by omega) fun f hf => ?_, fun j v u hv hu => a3 j v u (by rw [Nat.zero_add]; exact hv) hu⟩
      have := (a2 f hf).2
      rwa [Nat.sub_zero] at this
    · cases ho
def ArgR (P : Program) (t : TypeId) (av : AV) : Prop :=
  match P.underlying t with
  | some (.struct _) => ∃ us, av = .agg us ∧ CellsOk P t us
  | _ => CellsOk P t [av]
theorem argR_open {n : Nat} {t : TypeId} {v : Value} {d : DataW H} {p : List MemPlace} {base : Nat} (ho : opensT P n t = true) (hval : Value.okWide P W .any base t v) (h : DataW.Trod enc P W 0 (fun _ => true) true t v d p) (hlt : ∀ x ∈ p, x.block < W.heap.size) :
    ∃ av, ArgR P t av ∧ VR (fun b => b < W.heap.size) W noPl [] 1 v av := by
  obtain ⟨fuel, hf⟩ := h
  obtain ⟨us, h1, h2, h3⟩ := cells_open n fuel t _ _ ho hf hlt
  have one : ∀ v', v.cells.toList = [v'] → v = v' → (∀ fs, P.underlying t ≠ some (.struct fs)) → ∃ av, ArgR P t av ∧ VR (fun b => b < W.heap.size) W noPl [] 1 v av := fun v' hc hv hns => by
    rw [hc] at h1
    match us, h1 with
    | [u], _ =>
      refine ⟨u, ?_, ?_⟩
      · unfold ArgR
        split
        · rename_i fs hfs; exact absurd hfs (hns fs)
        · exact h2
      · rw [hv]
        exact (h3 0 v' u (by rw [hc]; rfl) rfl).2
  cases n with
  | zero => simp [opensT] at ho
  | succ n =>
    unfold opensT at ho
    split at ho
    · rename_i k ht
      obtain ⟨m, rfl⟩ := okWide_int ht hval
      exact one _ rfl rfl (fun fs e => by rw [ht] at e; cases e)
    · rename_i ht
      obtain ⟨b, rfl⟩ := okWide_bool ht hval
      exact one _ rfl rfl (fun fs e => by rw [ht] at e; cases e)
    · rename_i ht
      obtain ⟨s, rfl⟩ := okWide_string ht hval
      exact one _ rfl rfl (fun fs e => by rw [ht] at e; cases e)
    · rename_i e' ht
      obtain ⟨a, len, cap, rfl⟩ := okWide_slice ht hval
      exact one _ rfl rfl (fun fs e => by rw [ht] at e; cases e)
    · rename_i fs ht
      obtain ⟨cs, rfl, hcs⟩ := okWide_struct ht hval
      refine ⟨.agg us, ?_, .agg cs us (by simpa [Value.cells] using h1.symm) (fun j v hv => ?_) (fun j v u hv hu => ?_)⟩
      · unfold ArgR; rw [ht]; exact ⟨us, rfl, h2⟩
      · have hj : j < us.length := by
          rw [h1]; have := (Array.getElem?_eq_some_iff.1 hv).1; simpa [Value.cells] using this
        exact (h3 j v _ (by simpa [Value.cells] using hv) (List.getElem?_eq_getElem hj)).1
      · exact (h3 j v u (by simpa [Value.cells] using hv) hu).2
    · cases ho
theorem argsR_open {n base : Nat} : ∀ {ts : List TypeId} {vs : List Value} {ds : List (DataW H)} {p : List MemPlace}, ts.all (opensT P n) = true → (∀ (j : Nat) t v, ts[j]? = some t → vs[j]? = some v → Value.okWide P W .any base t v) →
    DataW.TrodAll enc P W 0 (fun _ => true) true ts vs ds p → (∀ x ∈ p, x.block < W.heap.size) → ∃ avs : List AV, avs.length = vs.length ∧ ds.length = ts.length ∧ avs.length = ts.length ∧ (∀ (j : Nat) (t : TypeId) (av : AV), ts[j]? = some t → avs[j]? = some av → ArgR P t av) ∧
      (∀ (j : Nat) (v : Value) (av : AV), vs[j]? = some v → avs[j]? = some av → VR (fun b => b < W.heap.size) W noPl [] 1 v av)
  | [], vs, ds, p, _, _, h, _ => by
    obtain ⟨rfl, rfl, rfl⟩ := trodAll_nil h
    exact ⟨[], rfl, rfl, rfl, fun j t av h => by simp at h, fun j v av h => by simp at h⟩
  | t :: ts, vs, ds, p, ho, hval, h, hlt => by
    obtain ⟨v, vs', d, ds', p1, q, rfl, rfl, rfl, hd, hrest⟩ := trodAll_cons h
    simp only [List.all_cons, Bool.and_eq_true] at ho
    obtain ⟨av, a1, a2⟩ := argR_open ho.1 (hval 0 t v rfl rfl) hd (fun x hx => hlt x (List.mem_append.2 (.inl hx)))
    obtain ⟨avs, b1, b2, b3, b4, b5⟩ := argsR_open ho.2 (fun j t v h1 h2 => hval (j + 1) t v (by simpa using h1) (by simpa using h2)) hrest (fun x hx => hlt x (List.mem_append.2 (.inr hx)))
    refine ⟨av :: avs, by simp [b1], by simp [b2], by simp [b3], fun j t' av' h1 h2 => ?_, fun j v' av' h1 h2 => ?_⟩
    · cases j with
      | zero => simp at h1 h2; subst h1; subst h2; exact a1
      | succ j => exact b4 j t' av' (by simpa using h1) (by simpa using h2)
    · cases j with
      | zero => simp at h1 h2; subst h1; subst h2; exact a2
      | succ j => exact b5 j v' av' (by simpa using h1) (by simpa using h2)
theorem law_postR {n : Nat} {f : FuncId} {fn : Func} {tb : TypeId} {spec : CSpec} {s : ChangeSpec} (hs : Sound P f spec) (hl : laidOutB P = true) (hop : fn.params.toList.all (opensT P n) = true) (hrd : fn.params.toList.all (fun t => P.readableRec t && decide (t < P.types.size)) = true)
    (hres : fn.resultTypes = #[tb]) (hb : P.underlying tb = some .bool) (hv : s.vars = []) (hfn : ∀ ds : List (DataW H), ds.length = fn.params.toList.length → (s.fn H ds).results = [.lit (.bool true)] ∧ (s.fn H ds).args = ds ∧ (s.fn H ds).vars = [])
    (hlaw : ∀ avs : List AV, avs.length = fn.params.toList.length → (∀ (j : Nat) (t : TypeId) (av : AV), fn.params.toList[j]? = some t → avs[j]? = some av → ArgR P t av) →
      ∃ x, spec.args x = avs ∧ spec.ins x = [] ∧ spec.pre x ∧ ∀ r ic news, spec.post x r ic news → r = .bool true)
    {base : Nat} {args : Array Value} {ds gs : List (DataW H)} {before : List MemPlace} (hval : ∀ (j : Nat) t v, fn.params[j]? = some t → args[j]? = some v → Value.okWide P W .any base t v)
    (hW : DataW.Whole enc P fn.params.toList s.vars false W args.toList ds gs before) : Calls P f args W fun e W' => ∃ v, e = .returned v ∧ s.post enc P fn false true false false W args v W' := by
  have hW' := hW
  have hltb : ∀ x ∈ before, x.block < W.heap.size := fun x hx => hW.lt x hx
  obtain ⟨p, q, hA, hV, rfl, _, _⟩ := hW
  rw [hv] at hV
  obtain ⟨rfl, rfl⟩ := trodVars_none hV
  simp only [List.append_nil] at hltb hW'
  obtain ⟨avs, a1, a2, a3, a4, a5⟩ := argsR_open hop (fun j t v h1 h2 => hval j t v (by simpa using h1) (by simpa using h2)) hA hltb
  obtain ⟨x, rfl, hins, hpre, hpost⟩ := hlaw avs a3 a4
  have hsr : SR (fun b => b < W.heap.size) W noPl args.toList ⟨spec.args x, spec.ins x, 1, (spec.ins x).length⟩ := by
    rw [hins]
    exact ⟨fun g hg => hg.elim, fun b hb => hb, rfl, Nat.le_refl _, fun t t' g h => (by simp [noPl] at h), fun g hg => hg.elim, fun g hg => (by simp [noPl] at hg), fun r hr => (by simp at hr), ⟨fun _ _ => noFoot, fun t r ob h => (by simp at h), fun _ _ _ => rfl, fun t t' j j' p p' b h => h.elim, fun t j p b h => h.elim, fun t j p b h => h.elim⟩, fun t r h => (by simp at h), a1.symm, fun i v u h1 h2 => a5 i v u h1 h2⟩
  refine (hs.2 x hpre _ W args noPl hsr (fun r hr => by rw [hins] at hr; simp at hr)).mono ?_
  rintro e W' ⟨v, r, ic, news, φ', rfl, hp, hic, _, _, _, hkeep, hsr', _, _⟩
  have hr := hpost r ic news hp
  subst hr
  have hvb := (hsr'.env 0 v _ rfl rfl).bool_inv
  subst hvb
  have hbelow : Below W.heap.size W W' := ⟨hkeep.os, hkeep.tape, hkeep.output, hkeep.size, fun b hb => hkeep.block b ⟨hb, fun h => h⟩⟩
  obtain ⟨f1, f2, f3⟩ := hfn ds a2
  refine ⟨_, rfl, ds, [], p, [], p, [], by rw [hv]; simpa [hv] using hW', ?_, ?_, ?_, hbelow.frame _, fun h => by cases h⟩
  · simp only [List.append_nil]
    rw [f1, hres]
    exact trodAll_mk1 (shut_bool hb true)
  · simp only [List.append_nil]
    rw [f2]
    exact args_stay hl hrd hA (fun x hx => hbelow.same (hltb x hx)) (fun x hx => by simpa using hltb x hx)
  · simp only [List.append_nil]
    rw [f3, hv]
    exact rfl
end
end Go.Am
