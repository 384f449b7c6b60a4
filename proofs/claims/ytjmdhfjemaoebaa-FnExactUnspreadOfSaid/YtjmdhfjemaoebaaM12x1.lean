import Derived.Test.YtjmdhfjemaoebaaM012x19
import Derived.Test.YtjmdhfjemaoebaaM012x18
import Derived.Test.YtjmdhfjemaoebaaM012x12
import Derived.Test.YtjmdhfjemaoebaaM012x16
/- Chapter 7: products of two tensors, summed; sums over what is spread; what they are. -/
namespace Go.Proofs.Ytjmdhfjemaoebaa
set_option maxRecDepth 20000
open Go.RowKit Go.Am
set_option linter.unusedSimpArgs false
/-- No number of a tensor is too great for products. -/
def smOk (xs zs : List Int) : Bool := tensorOk xs zs && btw zs (-100000000) 100000000
theorem smOk_t {xs zs : List Int} (h : tensorOk xs zs = true) : smOk xs zs = btw zs (-100000000) 100000000 := by unfold smOk; rw [h, Bool.true_and]
theorem smOk_f {xs zs : List Int} (h : tensorOk xs zs = false) : smOk xs zs = false := by unfold smOk; rw [h, Bool.false_and]
theorem smOk_ten {xs zs : List Int} (h : smOk xs zs = true) : tensorOk xs zs = true := by unfold smOk at h; rw [Bool.and_eq_true] at h; exact h.1
theorem smOk_b {xs zs : List Int} (h : smOk xs zs = true) : btw zs (-100000000) 100000000 = true := by unfold smOk at h; rw [Bool.and_eq_true] at h; exact h.2
/-- The sum of the products of two rows, as far as k. -/
def dtP (us vs : List Int) : Nat → Int
  | 0 => 0
  | k + 1 => IntKind.i64.wrap (dtP us vs k + IntKind.i64.wrap (us.getD k 0 * vs.getD k 0))
def dtC (xs zs ps qs : List Int) : Prop := smOk xs zs = true ∧ smOk ps qs = true ∧ xs = ps
instance (xs zs ps qs : List Int) : Decidable (dtC xs zs ps qs) := by unfold dtC; infer_instance
def dtM (xs zs ps qs : List Int) : Int × Bool := if dtC xs zs ps qs then (dtP zs qs zs.length, true) else (0, false)
theorem dtM_t {xs zs ps qs : List Int} (h : dtC xs zs ps qs) : dtM xs zs ps qs = (dtP zs qs zs.length, true) := if_pos h
theorem dtM_f {xs zs ps qs : List Int} (h : ¬ dtC xs zs ps qs) : dtM xs zs ps qs = (0, false) := if_neg h
theorem dtC_len {xs zs ps qs : List Int} (h : tensorOk xs zs = true) (h' : tensorOk ps qs = true) (e : xs = ps) : qs.length = zs.length := by
  have h1 := ((tensorOk_iff _ _).1 h).2.1
  have h2 := ((tensorOk_iff _ _).1 h').2.1
  subst e; omega

/-- A number added to one of a row. -/
def addAt (us : List Int) (i z : Int) : List Int := us.set i.toNat (IntKind.i64.wrap (us.getD i.toNat 0 + z))
theorem addAt_length (us : List Int) (i z : Int) : (addAt us i z).length = us.length := by simp [addAt]
/-- So many sums of those numbers for which indexes tell them, as far as k. -/
def suT (zs is : List Int) (n : Nat) : Nat → List Int
  | 0 => List.replicate n 0
  | k + 1 => addAt (suT zs is n k) (is.getD k 0) (zs.getD k 0)
theorem suT_length (zs is : List Int) (n : Nat) : ∀ k, (suT zs is n k).length = n
  | 0 => by simp [suT]
  | k + 1 => by rw [suT, addAt_length]; exact suT_length zs is n k
def suL (zs is : List Int) (n : Nat) : List Int := suT zs is n is.length
theorem suL_length (zs is : List Int) (n : Nat) : (suL zs is n).length = n := suT_length zs is n _
/-- The numbers from nought on. -/
def iotaL (n : Nat) : List Int := (List.range n).map fun j : Nat => (j : Int)
theorem iotaL_length (n : Nat) : (iotaL n).length = n := by simp [iotaL]
theorem iotaL_getD {n j : Nat} (h : j < n) : (iotaL n).getD j 0 = j := range_getD h
/-- Where each number of a shape goes that another one is spread over. -/
def spI (xs ys : List Int) : List Int := sprd xs (iotaL (cntTo xs xs.length).toNat) ys
theorem spI_length (xs ys : List Int) : (spI xs ys).length = (cntTo ys ys.length).toNat := rdL_length _ _ _ _
theorem spI_getD {xs ys : List Int} (h : jOk xs ys = true) (h' : jL xs ys = ys) {k : Nat} (hk : k < (cntTo ys ys.length).toNat) : (spI xs ys).getD k 0 = idxTo xs (px xs ys k) xs.length ∧ 0 ≤ idxTo xs (px xs ys k) xs.length ∧ idxTo xs (px xs ys k) xs.length < cntTo xs xs.length := by
  obtain ⟨c1, c2, c3⟩ := sp_rd h h' (i := k) (by omega)
  refine ⟨?_, c2, c3⟩
  unfold spI
  rw [rdL_getD hk, c1, iotaL_getD (by omega)]
  omega
/-- The sums of what is spread over another shape. -/
def unL (zs xs ys : List Int) : List Int := suL zs (spI xs ys) (cntTo xs xs.length).toNat
theorem unL_length (zs xs ys : List Int) : (unL zs xs ys).length = (cntTo xs xs.length).toNat := suL_length _ _ _
def unC (xs zs ys : List Int) : Prop := tensorOk xs zs = true ∧ ¬ spread ys xs 0 < 0
instance (xs zs ys : List Int) : Decidable (unC xs zs ys) := by unfold unC; infer_instance
def unM (xs zs ys : List Int) : TM := if unC xs zs ys then told ys (unL zs ys xs) else noT
theorem unM_t {xs zs ys : List Int} (h : unC xs zs ys) : unM xs zs ys = told ys (unL zs ys xs) := if_pos h
theorem unM_f {xs zs ys : List Int} (h : ¬ unC xs zs ys) : unM xs zs ys = noT := if_neg h
theorem unM_len (xs zs ys : List Int) : (unM xs zs ys).1.length ≤ 3 ∧ (unM xs zs ys).2.1.length ≤ 64 := by
  by_cases h : unC xs zs ys
  · rw [unM_t h]; exact told_len _ _
  · rw [unM_f h]; exact ⟨Nat.zero_le _, Nat.zero_le _⟩

/-- A tensor with another one added so often. -/
def sfL (zs ws : List Int) (n : Int) : List Int := (List.range zs.length).map fun j => IntKind.i64.wrap (zs.getD j 0 + IntKind.i64.wrap (n * ws.getD j 0))
theorem sfL_length (zs ws : List Int) (n : Int) : (sfL zs ws n).length = zs.length := by simp [sfL]
theorem sfL_getD {zs ws : List Int} {n : Int} {j : Nat} (h : j < zs.length) : (sfL zs ws n).getD j 0 = IntKind.i64.wrap (zs.getD j 0 + IntKind.i64.wrap (n * ws.getD j 0)) := range_getD h
def sfC (xs zs ps qs : List Int) : Prop := tensorOk xs zs = true ∧ tensorOk ps qs = true ∧ xs = ps
instance (xs zs ps qs : List Int) : Decidable (sfC xs zs ps qs) := by unfold sfC; infer_instance
def sfM (xs zs ps qs : List Int) (n : Int) : TM := if sfC xs zs ps qs then told xs (sfL zs qs n) else noT
theorem sfM_t {xs zs ps qs : List Int} {n : Int} (h : sfC xs zs ps qs) : sfM xs zs ps qs n = told xs (sfL zs qs n) := if_pos h
theorem sfM_f {xs zs ps qs : List Int} {n : Int} (h : ¬ sfC xs zs ps qs) : sfM xs zs ps qs n = noT := if_neg h
theorem sfM_len (xs zs ps qs : List Int) (n : Int) : (sfM xs zs ps qs n).1.length ≤ 3 ∧ (sfM xs zs ps qs n).2.1.length ≤ 64 := by
  by_cases h : sfC xs zs ps qs
  · rw [sfM_t h]; exact told_len _ _
  · rw [sfM_f h]; exact ⟨Nat.zero_le _, Nat.zero_le _⟩
theorem retLM7 {env : List AV} {rows : List Row} {ctr τ ver : Nat} {t : TypeId} {zs zs' : List Int} {r : Row} {n : Nat} (hz : zs' = zs) (hr : rows[τ]? = some r) (hv : r.ver = ver) (e : r = ⟨ver, t, 1, zs.map (.int .i64)⟩) (hn : n = zs.length) :
    RetB ⟨env, rows, ctr, 0⟩ [] (fun r ic news => r = .ref 0 0 0 zs'.length ∧ ic = [] ∧ news = [⟨0, t, 1, zs'.map (.int .i64)⟩]) (.ref τ ver 0 n) := by
  subst hz; exact retL hr hv e hn
end Go.Proofs.Ytjmdhfjemaoebaa

/- The abstract machine, part X: calls that a driver leaves, rows that change places, slices of slices from where they are. -/
namespace Go.Am
open Go.RowKit
/-- What a driver leaves. -/
def Held (p : Prop) : Prop := p
theorem held_in {P : Program} {f : FuncId} {s : St} {a : List AV} {k : AV → St → Prop} (h : Held (CallG P f s a k)) : CallG P f s a k := h
theorem held_out {p : Prop} (h : p) : Held p := h
theorem callG_eq {P : Program} {f : FuncId} {s : St} {a b : List AV} {k : AV → St → Prop} (h : a = b) (hk : CallG P f s b k) : CallG P f s a k := h ▸ hk
/-- A call whose arguments are trees of rows. -/
theorem callG_tree {P : Program} {f : FuncId} {s : St} {args us : List AV} {k : AV → St → Prop} (h1 : callArgs s [] [] args = some us) (h : CallB P f s us k) : CallG P f s args k := by
  obtain ⟨sp, hs, hio, x, rfl, hins, hpre, hk⟩ := h
  refine callG_x ⟨[], sp, hs, sp.args x, [], List.nodup_nil, by rw [hio]; exact h1, rfl, x, rfl, hins.symm, hpre, fun r ic news hp hic => ?_⟩
  have : ic = [] := List.eq_nil_of_length_eq_zero (by simpa using hic)
  subst this
  exact hk r news hp
/-- Two rows change their places. -/
theorem to_swap {s s' : St} (i j : Nat) (bs : List Bool) (ri rj : Row) (hi : s.rows[i]? = some ri) (hj : s.rows[j]? = some rj) (hne : i ≠ j) (hli : s.low ≤ i) (hlj : s.low ≤ j)
    (h : (s.swapAt i j bs ri rj).to s') : s.to s' := by
  obtain ⟨s1, h1, h2⟩ := h
  exact ⟨s1, .swap s s1 i j bs ri rj hi hj hne hli hlj h1, h2⟩
/-- What a cell has for itself gets a name. -/
theorem to_open {s s' : St} (τ j : Nat) (r : Row) (e : TypeId) (z n : Nat) (cs : List AV) (hr : s.rows[τ]? = some r) (hc : r.cells[j]? = some (.own e z n cs))
    (h : (s.openAt τ j r e z n cs).to s') : s.to s' := by
  obtain ⟨s1, h1, h2⟩ := h
  exact ⟨s1, .opn s s1 τ j r e z n cs hr hc h1, h2⟩

/-! Lists of numbers, each from where it is. -/
abbrev ML := List (Nat × List Int)
def mlC (x : Nat × List Int) : AV := slI x.1 x.2
theorem mlC_pure (x : Nat × List Int) : (mlC x).pure = true := slI_pure _ _
theorem ml_all (g : Nat) (fs : List (List Int)) : (fs.map fun f => (g, f)).map mlC = fs.map (slI g) := by
  rw [List.map_map]; rfl
theorem ml_snd (g : Nat) (fs : List (List Int)) : (fs.map fun f => (g, f)).map Prod.snd = fs := by
  rw [List.map_map]; exact List.map_id _
theorem ml_getD (M : ML) (k : Nat) : (M.map Prod.snd).getD k [] = (M.getD k (0, [])).2 := by
  simp only [List.getD, List.getElem?_map]
  cases M[k]? <;> rfl
theorem pureL_ml (M : ML) : pureL (M.map mlC) = true := pureL_map mlC_pure _
theorem get_ml_n {k : Nat} {M : ML} {K : AV → Prop} (h : k < M.length) (hK : K (mlC (M.getD k (0, [])))) : aGet ((M.map mlC).drop ((k : Int).toNat * 1)) 0 K := get_map _ (by simp) h hK
theorem get_ml {i : Int} {M : ML} {K : AV → Prop} (h : 0 ≤ i ∧ i < M.length) (hK : K (mlC (M.getD i.toNat (0, [])))) : aGet ((M.map mlC).drop (i.toNat * 1)) 0 K := get_map _ (by simp) (by omega) hK
theorem tr_ml {f : Nat} (x : Nat × List Int) : AV.tr (f + 1) (mlC x) = some (mlC x) := by
  show (if (mlC x).pure = true then some (mlC x) else none) = some (mlC x)
  rw [if_pos (mlC_pure x)]
theorem trL_ml {f : Nat} (M : ML) : (M.map mlC).mapM (AV.tr (f + 1)) = some (M.map mlC) := trL_map (fun x => tr_ml x) M
theorem cut_ml {f : Nat} {M : ML} {m : Nat} {k : List AV → Prop} (hm : m = M.length) (hk : k (M.map mlC)) : aCut (f + 1) (M.map mlC) 0 (m * 1) k := cut_tr (by simp [hm]) (trL_ml M) hk
end Go.Am

/- Chapter 3: what a node has, of its kind. -/
namespace Go.Proofs.Ytjmdhfjemaoebaa
set_option maxRecDepth 20000
open Go.RowKit Go.Am
set_option linter.unusedSimpArgs false
attribute [local irreducible] aPlan aGet aIf aLoop aCall RetB NextB CallB CallG aCut aSet aAppend

def lsP (x : Nd) : Prop := ((x.op = 7 ∨ x.op = 11) → (x.l.length : Int) = 1) ∧ (x.op = 10 → (x.l.length : Int) = 3) ∧ (x.op ≠ 7 ∧ x.op ≠ 11 ∧ x.op ≠ 10 ∧ x.op ≠ 8 ∧ x.op ≠ 9 → (x.l.length : Int) = 0)
instance (x : Nd) : Decidable (lsP x) := by unfold lsP; infer_instance
def pcN (op : Int) : Int := if op = 0 ∨ op = 1 then 0 else if 6 ≤ op ∧ op ≤ 10 then 1 else 2
theorem pcN_0 {op : Int} (h : op = 0 ∨ op = 1) : pcN op = 0 := if_pos h
theorem pcN_1 {op : Int} (h : 6 ≤ op ∧ op ≤ 10) : pcN op = 1 := by unfold pcN; rw [if_neg (by omega), if_pos h]
theorem pcN_2 {op : Int} (h : ¬ (op = 0 ∨ op = 1)) (h' : ¬ (6 ≤ op ∧ op ≤ 10)) : pcN op = 2 := by unfold pcN; rw [if_neg h, if_neg h']
theorem pcN_cases (op : Int) : (pcN op = 0 ∧ (op = 0 ∨ op = 1)) ∨ (pcN op = 1 ∧ (6 ≤ op ∧ op ≤ 10)) ∨ (pcN op = 2 ∧ ¬ (op = 0 ∨ op = 1) ∧ ¬ (6 ≤ op ∧ op ≤ 10)) := by
  by_cases h : op = 0 ∨ op = 1
  · exact .inl ⟨pcN_0 h, h⟩
  · by_cases h' : 6 ≤ op ∧ op ≤ 10
    · exact .inr (.inl ⟨pcN_1 h', h'⟩)
    · exact .inr (.inr ⟨pcN_2 h h', h, h'⟩)
def formP (x : Nd) (k n : Int) : Prop := (0 ≤ x.op ∧ x.op ≤ 12) ∧ lsP x ∧ ((x.op ≤ 1 ∨ (6 ≤ x.op ∧ x.op ≤ 10)) → x.b = 0) ∧ (x.op = 0 → 0 ≤ x.a ∧ x.a < n) ∧ (x.op = 1 → -9 ≤ x.a ∧ x.a ≤ 9) ∧ (2 ≤ x.op → 0 ≤ x.a ∧ x.a < k) ∧ (((2 ≤ x.op ∧ x.op ≤ 5) ∨ 11 ≤ x.op) → 0 ≤ x.b ∧ x.b < k)
instance (x : Nd) (k n : Int) : Decidable (formP x k n) := by unfold formP; infer_instance

theorem listOk_sound : Sound Try.prog 166 (fnS (ι := Nat × Nd) (fun | (c, x) => [.agg [.int .i64 x.op, .int .i64 x.a, .int .i64 x.b, .sl c x.l.length (x.l.map (.int .i64))]]) (fun _ => True) (fun | (_, x) => .bool (decide (lsP x)))) := by
  refine sound_of Try.func166 rfl (enters_of Try.func166 (by kernel_rfl) (by kernel_rfl)) ?_
  rintro ⟨c, x⟩ -
  conv => whnf
  repeat' (first
    | (refine fun (_ : _ ≤ maxLen) => ?_; conv => whnf)
    | (refine aGet_in rfl ?_; conv => whnf)
    | (refine And.intro rfl (And.intro (List.cons_ne_nil _ _) ?_); conv => whnf)
    | (refine append_same ?_; conv => whnf)
    | (refine aIf_dec (fun _ => ?_) (fun _ => ?_) <;> conv => whnf))
  all_goals refine retS rfl (congrArg AV.bool (Bool.eq_iff_iff.2 ?_))
  all_goals simp only [decide_eq_true_eq, beq_iff_eq, bne_iff_ne, ne_eq, true_iff, false_iff, Bool.false_eq_true]
  all_goals (try unfold lsP)
  all_goals (try unfold lsP)
  all_goals omega
theorem listOk_call {c : Nat} {x : Nd} {env : List AV} {rows : List Row} {ctr low : Nat} {k : AV → St → Prop} (hpre : True) (h : k (.bool (decide (lsP x))) ⟨env, rows, ctr + 1, low⟩) :
    CallB Try.prog 166 ⟨env, rows, ctr, low⟩ [.agg [.int .i64 x.op, .int .i64 x.a, .int .i64 x.b, .sl c x.l.length (x.l.map (.int .i64))]] k := callS_in listOk_sound (c, x) hpre rfl h
theorem partCount_sound : Sound Try.prog 141 (fnS (ι := Int) (fun op => [.int .i64 op]) (fun _ => True) (fun op => .int .i64 (pcN op))) := by
  refine sound_of Try.func141 rfl (enters_of Try.func141 (by kernel_rfl) (by kernel_rfl)) ?_
  intro (op : Int) _
  have h := pcN_cases op
  conv => whnf
  repeat' (first
    | (refine append_same ?_; conv => whnf)
    | (refine aIf_dec (fun _ => ?_) (fun _ => ?_) <;> conv => whnf))
  all_goals exact retS rfl (int_eq (by omega))
theorem partCount_call {op : Int} {env : List AV} {rows : List Row} {ctr low : Nat} {k : AV → St → Prop} (hpre : True) (h : k (.int .i64 (pcN op)) ⟨env, rows, ctr + 1, low⟩) :
    CallB Try.prog 141 ⟨env, rows, ctr, low⟩ [.int .i64 op] k := callS_in partCount_sound op hpre rfl h
theorem partsOf_sound : Sound Try.prog 98 (fnR (ι := Nat × Nd) 3 1 (fun | (c, x) => [.agg [.int .i64 x.op, .int .i64 x.a, .int .i64 x.b, .sl c x.l.length (x.l.map (.int .i64))]]) (fun _ => True) (fun | (_, x) => (pcN x.op).toNat) (fun | (_, x) => ([x.a, x.b] : List Int).map (.int .i64))) := by
  refine sound_of Try.func98 rfl (enters_of Try.func98 (by kernel_rfl) (by kernel_rfl)) ?_
  rintro ⟨c, x⟩ -
  have h := pcN_cases x.op
  conv => whnf
  repeat' (first
    | (refine aGet_in rfl ?_; conv => whnf)
    | (refine And.intro (by omega) ?_; conv => whnf)
    | (refine And.intro rfl (And.intro (List.cons_ne_nil _ _) ?_); conv => whnf)
    | (refine callG_t ?_; conv => whnf)
    | (refine append_same ?_; conv => whnf)
    | (refine partCount_call trivial ?_; conv => whnf)
    | (refine And.intro (And.intro (by kernel_rfl) (And.intro rfl (Nat.le_of_ble_eq_true rfl))) ?_; conv => whnf))
  exact retR rfl rfl rfl rfl
theorem partsOf_call {c : Nat} {x : Nd} {env : List AV} {rows : List Row} {ctr low : Nat} {k : AV → St → Prop} (h : k (.ref rows.length ctr 0 (pcN x.op).toNat) ⟨env, rows ++ [⟨ctr, 3, 1, ([x.a, x.b] : List Int).map (.int .i64)⟩], ctr + 1, low⟩) :
    CallB Try.prog 98 ⟨env, rows, ctr, low⟩ [.agg [.int .i64 x.op, .int .i64 x.a, .int .i64 x.b, .sl c x.l.length (x.l.map (.int .i64))]] k := callR_in partsOf_sound (c, x) trivial (protL_ints _ _) h
set_option maxHeartbeats 4000000 in
theorem nodeOk_sound : Sound Try.prog 163 (fnS (ι := Nat × List (List Int) × List Nd × Nat) (fun | (c, xss, ns, k) => [.agg [.sl c xss.length (xss.map (slI c)), .sl c ns.length (ns.flatMap (ndC c))], .int .i64 k]) (fun | (_, _, ns, k) => k < ns.length) (fun | (_, xss, ns, k) => .bool (decide (formP (ns.getD k default) k xss.length)))) := by
  refine sound_of Try.func163 rfl (enters_of Try.func163 (by kernel_rfl) (by kernel_rfl)) ?_
  rintro ⟨c, xss, ns, k⟩ hpre
  have hk : k < ns.length := hpre
  have hmax : maxLen = 9223372036854775807 := rfl
  have hpc := pcN_cases (ns.getD k default).op
  clear hpre
  conv => whnf
  repeat' (first
    | (refine aIf_t ?_; conv => whnf)
    | (refine aIf_f ?_; conv => whnf)
    | (refine fun (_ : _ ≤ maxLen) => ?_; conv => whnf)
    | (refine aGet_in rfl ?_; conv => whnf)
    | (refine And.intro (by omega) ?_; conv => whnf)
    | (refine load_same ?_; conv => whnf)
    | (refine And.intro rfl (And.intro (List.cons_ne_nil _ _) ?_); conv => whnf)
    | (refine And.intro (Nat.le_of_ble_eq_true rfl) ?_; conv => whnf)
    | (refine callG_t ?_; conv => whnf)
    | (refine indexOk_call trivial ?_; conv => whnf)
    | (refine append_same ?_; conv => whnf)
    | (refine part_nd_n (by omega) ?_; conv => whnf)
    | (refine listOk_call trivial ?_; conv => whnf)
    | (refine partCount_call trivial ?_; conv => whnf)
    | (refine partsOf_call ?_; conv => whnf)
    | (refine takeN_in ?_; conv => whnf)
    | (refine And.intro (pureL_ints _ _) ?_; conv => whnf)
    | (refine set_force ?_; conv => whnf)
    | (refine And.intro (by kernel_rfl) ?_; conv => whnf)
    | refine aIf_eqt ?_
    | refine aIf_eqf ?_
    | refine aIf_not ?_
    | (refine aIf_dec (fun _ => ?_) (fun _ => ?_) <;> conv => whnf))
  all_goals (first | (refine retS rfl (congrArg AV.bool (Bool.eq_iff_iff.2 ?_)); simp only [decide_eq_true_eq, beq_iff_eq, bne_iff_ne, ne_eq, true_iff, false_iff, Bool.false_eq_true]; unfold formP; (try unfold lsP at *); omega) | skip)
  all_goals
    rename_i g0 g1
    refine loop_u (ι := Nat) [false, true, false, false, false, false, false, false, false, false, false, false, false, false, false, false, false, false, false, false, false, false, false, false, false, false, false, false, false, false, false, false, false, false, false, false, false, false, false, false, false, false, false, false, false, false, false, false, false, false, false, false, false, false, false, false, true, true, true, false, false, false, false, false, false, false, false] (fun j => [(58, .int .i64 j)]) (fun _ => []) (fun j => (j : Int) ≤ pcN (ns.getD k default).op ∧ ∀ i, i < j → 0 ≤ ([(ns.getD k default).a, (ns.getD k default).b] : List Int).getD i 0 ∧ ([(ns.getD k default).a, (ns.getD k default).b] : List Int).getD i 0 < k) (fun j => 2 - j) (0) ⟨by omega, fun j hj => absurd hj (Nat.not_lt_zero _)⟩ ?_ ?_
    · conv => whnf
      repeat' (first
        | exact trivial
        | exact rfl
        | exact pureL_ints _ _
        | exact Or.inl (And.intro rfl rfl)
        | exact pureL_ii _ _
        | exact pureL_nd _ _
        | refine Or.inr ?_
        | refine And.intro ?_ ?_
        | exact Nat.le_of_ble_eq_true rfl)
    · rintro j ⟨hj, hall⟩
      have hj : (j : Int) ≤ pcN (ns.getD k default).op := hj
      have h0 : 0 < j → 0 ≤ (ns.getD k default).a ∧ (ns.getD k default).a < k := fun h => hall 0 h
      have h1 : 1 < j → 0 ≤ (ns.getD k default).b ∧ (ns.getD k default).b < k := fun h => hall 1 h
      have hlen : ([(ns.getD k default).a, (ns.getD k default).b] : List Int).length = 2 := rfl
      have e0 : j = 0 → ([(ns.getD k default).a, (ns.getD k default).b] : List Int).getD j 0 = (ns.getD k default).a := fun h => by rw [h]; rfl
      have e1 : j = 1 → ([(ns.getD k default).a, (ns.getD k default).b] : List Int).getD j 0 = (ns.getD k default).b := fun h => by rw [h]; rfl
      conv => whnf
      repeat' (first
        | (refine get_nat0 (by omega) ?_; conv => whnf)
        | (refine And.intro (by omega) ?_; conv => whnf)
        | (refine callG_t ?_; conv => whnf)
        | (refine indexOk_call trivial ?_; conv => whnf)
        | (refine append_same ?_; conv => whnf)
        | refine aIf_not ?_
        | (refine aIf_dec (fun _ => ?_) (fun _ => ?_) <;> conv => whnf))
      all_goals (first | (refine retS rfl (congrArg AV.bool (Bool.eq_iff_iff.2 ?_)); simp only [decide_eq_true_eq, beq_iff_eq, bne_iff_ne, ne_eq, true_iff, false_iff, Bool.false_eq_true]; unfold formP; (try unfold lsP at *); omega) | skip)
      rename_i hlt hin
      refine next_u (j + 1) (show 2 - (j + 1) < 2 - j by omega) ⟨by omega, fun i hi => ?_⟩ ?_
      · rcases Nat.lt_succ_iff_lt_or_eq.1 hi with h | rfl
        · exact hall i h
        · exact hin
      · conv => whnf
        repeat' (first
          | exact trivial
          | exact rfl
          | exact pureL_ints _ _
          | exact Or.inl (And.intro rfl rfl)
          | exact pureL_ii _ _
          | exact pureL_nd _ _
          | refine Or.inr ?_
          | refine And.intro ?_ ?_
          | exact Nat.le_of_ble_eq_true rfl
          | exact int_eq (by rw [IntWalk.i64_in _ (by omega)] <;> omega))
theorem nodeOk_call {c j : Nat} {xss : List (List Int)} {ns : List Nd} {env : List AV} {rows : List Row} {ctr low : Nat} {k : AV → St → Prop} (hpre : j < ns.length) (h : k (.bool (decide (formP (ns.getD j default) j xss.length))) ⟨env, rows, ctr + 1, low⟩) :
    CallB Try.prog 163 ⟨env, rows, ctr, low⟩ [.agg [.sl c xss.length (xss.map (slI c)), .sl c ns.length (ns.flatMap (ndC c))], .int .i64 j] k := callS_in nodeOk_sound (c, xss, ns, j) hpre rfl h

def insOk (xss : List (List Int)) : Prop := xss.length ≤ 3 ∧ ∀ j, j < xss.length → shapeOk (xss.getD j []) = true
instance (xss : List (List Int)) : Decidable (insOk xss) := by unfold insOk; infer_instance
theorem inputShapesOk_sound : Sound Try.prog 153 (fnS (ι := Nat × List (List Int)) (fun | (c, xss) => [.sl c xss.length (xss.map (slI c))]) (fun _ => True) (fun | (_, xss) => .bool (decide (insOk xss)))) := by
  refine sound_of Try.func153 rfl (enters_of Try.func153 (by kernel_rfl) (by kernel_rfl)) ?_
  rintro ⟨c, xss⟩ -
  have hmax : maxLen = 9223372036854775807 := rfl
  conv => whnf
  repeat' (first
    | (refine fun (_ : _ ≤ maxLen) => ?_; conv => whnf)
    | (refine append_same ?_; conv => whnf)
    | (refine aIf_dec (fun _ => ?_) (fun _ => ?_) <;> conv => whnf))
  · exact retS rfl (congrArg AV.bool (decide_eq_false (fun h => by have := h.1; omega)).symm)
  · refine loop_u (ι := Nat) [false, false, false, false, false, false, false, false, true, true, true, false, false, false, false, false, false, false] (fun j => [(10, .int .i64 j)]) (fun _ => []) (fun j => j ≤ xss.length ∧ ∀ i, i < j → shapeOk (xss.getD i []) = true) (fun j => xss.length - j) (0) ⟨by omega, fun j hj => absurd hj (Nat.not_lt_zero _)⟩ ?_ ?_
    · conv => whnf
      repeat' (first
        | exact trivial
        | exact rfl
        | exact pureL_ii _ _
        | refine And.intro ?_ ?_
        | exact Nat.le_of_ble_eq_true rfl)
    · rintro j ⟨hj, hall⟩
      have hj : j ≤ xss.length := hj
      conv => whnf
      repeat' (first
        | (refine And.intro (by omega) ?_; conv => whnf)
        | (refine callG_t ?_; conv => whnf)
        | (refine append_same ?_; conv => whnf)
        | (refine get_ii_n (by omega) ?_; conv => whnf)
        | (refine And.intro (pureL_ints _ _) ?_; conv => whnf)
        | (refine iShapeOk_call ?_; conv => whnf)
        | refine aIf_not ?_
        | (refine aIf_dec (fun _ => ?_) (fun _ => ?_) <;> conv => whnf)
        | (refine aIf_in (fun _ => ?_) (fun _ => ?_) <;> conv => whnf))
      · rename_i hlt hs
        refine next_u (j + 1) (show xss.length - (j + 1) < xss.length - j by omega) ⟨by omega, fun i hi => ?_⟩ ?_
        · rcases Nat.lt_succ_iff_lt_or_eq.1 hi with h | rfl
          · exact hall i h
          · exact hs
        · conv => whnf
          repeat' (first
            | exact trivial
            | exact rfl
            | exact pureL_ii _ _
            | refine And.intro ?_ ?_
            | exact Nat.le_of_ble_eq_true rfl
            | exact int_eq (by rw [IntWalk.i64_in _ (by omega)] <;> omega))
      · rename_i hlt hs
        exact retS rfl (congrArg AV.bool (decide_eq_false (fun h => by have := h.2 j (by omega); rw [this] at hs; cases hs)).symm)
      · exact retS rfl (congrArg AV.bool (decide_eq_true (⟨by omega, fun i hi => hall i (by omega)⟩ : insOk xss)).symm)
theorem inputShapesOk_call {c : Nat} {xss : List (List Int)} {env : List AV} {rows : List Row} {ctr low : Nat} {k : AV → St → Prop} (hpre : True) (h : k (.bool (decide (insOk xss))) ⟨env, rows, ctr + 1, low⟩) :
    CallB Try.prog 153 ⟨env, rows, ctr, low⟩ [.sl c xss.length (xss.map (slI c))] k := callS_in inputShapesOk_sound (c, xss) hpre rfl h
end Go.Proofs.Ytjmdhfjemaoebaa

/- Chapter 2: FoldOf. -/
namespace Go.Proofs.Ytjmdhfjemaoebaa
set_option maxRecDepth 20000
open Go.RowKit Go.Am
attribute [local irreducible] aPlan aGet aIf aLoop aCall RetB NextB CallB CallG aCut aSet aAppend

def foldM (xs zs ys : List Int) : TM := if tensorOk xs zs = true ∧ countOf ys = zs.length then (ys, zs, true) else noT
theorem fold_t {xs zs ys : List Int} (h : tensorOk xs zs = true) (h' : countOf ys = zs.length) : foldM xs zs ys = (ys, zs, true) := if_pos ⟨h, h'⟩
theorem fold_f1 {xs zs ys : List Int} (h : tensorOk xs zs = false) : foldM xs zs ys = noT := if_neg (by rw [h]; exact fun h => Bool.false_ne_true h.1)
theorem fold_f2 {xs zs ys : List Int} (h : countOf ys ≠ zs.length) : foldM xs zs ys = noT := if_neg (fun h' => h h'.2)
theorem fold_len (xs zs ys : List Int) : (foldM xs zs ys).1.length ≤ ys.length ∧ (foldM xs zs ys).2.1.length ≤ 64 := by
  by_cases h : tensorOk xs zs = true ∧ countOf ys = zs.length
  · rw [fold_t h.1 h.2]; exact ⟨Nat.le_refl _, (tensor_len h.1).2.2⟩
  · unfold foldM; rw [if_neg h]; exact ⟨Nat.zero_le _, Nat.zero_le _⟩
def sFoldOf : CSpec := fnTB (ι := Nat × List Int × Nat × List Int × Nat × List Int) 3 (fun | (c, xs, d, zs, e, ys) => [.agg [.sl c xs.length (xs.map (.int .i64)), .sl d zs.length (zs.map (.int .i64))], .sl e ys.length (ys.map (.int .i64))]) (fun | (_, _, _, _, _, ys) => ys.length ≤ 1048576) (fun | (_, xs, _, zs, _, ys) => foldM xs zs ys)
set_option maxRecDepth 10000 in
theorem iFoldOf_sound : Sound Try.prog 169 sFoldOf := by
  refine sound_of Try.func169 rfl (enters_of Try.func169 (by kernel_rfl) (by kernel_rfl)) ?_
  rintro ⟨c, xs, d, zs, e, ys⟩ hpre
  have hpre : ys.length ≤ 1048576 := hpre
  rcases tensor_or xs zs with ⟨ht, hx, hz⟩ | ht
  · conv => whnf
    repeat' (first
      | (refine plan_in (id := 1) [0, 1, 2, 3, 4, 6, 7, 8, 5, 9, 10] (by kernel_rfl) (by kernel_rfl) ?_; conv => whnf)
      | (refine plan_in (id := 3) [0, 2, 3, 1, 4, 5, 6, 7] (by kernel_rfl) (by kernel_rfl) ?_; conv => whnf)
      | (refine aIf_t ?_; conv => whnf)
      | (refine aIf_f ?_; conv => whnf)
      | (refine fun (_ : _ ≤ maxLen) => ?_; conv => whnf)
      | (refine aGet_in rfl ?_; conv => whnf)
      | (refine load_same ?_; conv => whnf)
      | (refine And.intro rfl (And.intro (List.cons_ne_nil _ _) ?_); conv => whnf)
      | (refine And.intro (Nat.le_of_ble_eq_true rfl) ?_; conv => whnf)
      | (refine copyNums_call (by omega) ?_; conv => whnf)
      | (refine iTensorOk_call ?_; conv => whnf)
      | (refine append_same ?_; conv => whnf)
      | (refine takeN_in ?_; conv => whnf)
      | (refine And.intro (pureL_ints _ _) ?_; conv => whnf)
      | (refine iCountOf_call ?_; conv => whnf)
      | (refine set_force ?_; conv => whnf)
      | (refine And.intro (by kernel_rfl) ?_; conv => whnf)
      | (refine aIf_tt (by assumption) ?_; conv => whnf)
      | refine aIf_eqf ?_
      | refine aIf_not ?_
      | (refine aIf_dec (fun _ => ?_) (fun _ => ?_) <;> conv => whnf))
    · rename_i h
      refine retTB (hM := fold_t ht h) ?_ ?_ ?_ ?_ ?_
      all_goals (first | exact rfl | decide | (simp; done))
    · rename_i h
      refine retTB (hM := fold_f2 h) ?_ ?_ ?_ ?_ ?_
      all_goals (first | exact rfl | decide | (simp; done))
  · conv => whnf
    repeat' (first
      | (refine plan_in (id := 1) [0, 1, 2, 3, 4, 6, 7, 8, 5, 9, 10] (by kernel_rfl) (by kernel_rfl) ?_; conv => whnf)
      | (refine plan_in (id := 3) [0, 2, 3, 1, 4, 5, 6, 7] (by kernel_rfl) (by kernel_rfl) ?_; conv => whnf)
      | (refine aIf_t ?_; conv => whnf)
      | (refine aIf_f ?_; conv => whnf)
      | (refine load_same ?_; conv => whnf)
      | (refine And.intro rfl (And.intro (List.cons_ne_nil _ _) ?_); conv => whnf)
      | (refine And.intro (Nat.le_of_ble_eq_true rfl) ?_; conv => whnf)
      | (refine iTensorOk_call ?_; conv => whnf)
      | (refine append_same ?_; conv => whnf)
      | (refine takeN_in ?_; conv => whnf)
      | (refine And.intro (pureL_ints _ _) ?_; conv => whnf)
      | (refine set_force ?_; conv => whnf)
      | (refine And.intro (by kernel_rfl) ?_; conv => whnf)
      | (refine aIf_ff (by assumption) ?_; conv => whnf)
      | refine aIf_eqf ?_
      | refine aIf_not ?_)
    refine retTB (hM := fold_f1 ht) ?_ ?_ ?_ ?_ ?_
    all_goals (first | exact rfl | decide | (simp; done))
theorem iFoldOf_call {c d e : Nat} {xs zs ys : List Int} {env : List AV} {rows : List Row} {ctr low : Nat} {k : AV → St → Prop} (hpre : ys.length ≤ 1048576)
    (hk : k (.tup [.agg [.ref rows.length ctr 0 (foldM xs zs ys).1.length, .ref (rows.length + 1) ctr 0 (foldM xs zs ys).2.1.length], .bool (foldM xs zs ys).2.2]) ⟨env, rows ++ [⟨ctr, 3, 1, (foldM xs zs ys).1.map (.int .i64)⟩, ⟨ctr, 3, 1, (foldM xs zs ys).2.1.map (.int .i64)⟩], ctr + 1, low⟩) :
    CallB Try.prog 169 ⟨env, rows, ctr, low⟩ [.agg [.sl c xs.length (xs.map (.int .i64)), .sl d zs.length (zs.map (.int .i64))], .sl e ys.length (ys.map (.int .i64))] k := callTB_in iFoldOf_sound (c, xs, d, zs, e, ys) hpre hk
end Go.Proofs.Ytjmdhfjemaoebaa
