import Derived.Test.YtjmdhfjemaoebaaM2x5
import Derived.Test.YtjmdhfjemaoebaaM2x1
import Derived.Test.YtjmdhfjemaoebaaM2x4
import Derived.Test.YtjmdhfjemaoebaaM12x1
import Derived.Test.YtjmdhfjemaoebaaM012x16
/- Chapter 3: the tensors of all nodes: what they are together. -/
namespace Go.Proofs.Ytjmdhfjemaoebaa
set_option maxRecDepth 20000
open Go.RowKit Go.Am
set_option linter.unusedSimpArgs false
theorem told_ok {a b : List Int} (h : (told a b).2.2 = true) : tensorOk (told a b).1 (told a b).2.1 = true := by
  unfold told at h ⊢
  split at h
  · rename_i ht; rw [if_pos ht]; exact ht
  · cases h
theorem num_any {xs zs : List Int} (h : tensorOk xs zs = true) (j : Nat) : -1000000000 ≤ zs.getD j 0 ∧ zs.getD j 0 ≤ 1000000000 := by
  by_cases hj : j < zs.length
  · exact ((tensorOk_iff _ _).1 h).2.2 j hj
  · have : zs.getD j 0 = 0 := by simp only [List.getD, List.getElem?_eq_none (show zs.length ≤ j by omega)]; rfl
    rw [this]; omega
theorem map_ok {sh : List Int} {f : Nat → Int} (hs : shapeOk sh = true) (hf : ∀ i, -1000000000 ≤ f i ∧ f i ≤ 1000000000) : tensorOk sh ((List.range (cntTo sh sh.length).toNat).map f) = true :=
  tensorOk_t hs (by have := cnt64 hs (Nat.le_refl _); simp; omega) fun j hj => by
    rw [range_getD (by simpa using hj)]; exact hf j
theorem neg_ok {xs zs : List Int} (h : (negM xs zs).2.2 = true) : tensorOk (negM xs zs).1 (negM xs zs).2.1 = true := by
  unfold negM at h ⊢
  split at h
  · rename_i ht
    rw [if_pos ht]
    obtain ⟨t1, t2, t3⟩ := (tensorOk_iff _ _).1 ht
    refine tensorOk_t t1 (by rw [List.length_map]; exact t2) fun j hj => ?_
    rw [List.length_map] at hj
    rw [getD_map hj]
    have := t3 j hj
    omega
  · cases h
theorem fold_ok {xs zs ys : List Int} (h : (foldM xs zs ys).2.2 = true) : tensorOk (foldM xs zs ys).1 (foldM xs zs ys).2.1 = true := by
  unfold foldM at h ⊢
  split at h
  · rename_i ht
    rw [if_pos ht]
    obtain ⟨t1, t2, t3⟩ := (tensorOk_iff _ _).1 ht.1
    have hc := ht.2
    have hs : shapeOk ys = true := by
      by_cases hs : shapeOk ys = true
      · exact hs
      · have : countOf ys = -1 := if_neg hs
        rw [this] at hc; omega
    rw [count_of hs] at hc
    exact tensorOk_t hs hc.symm t3
  · cases h
theorem turn_ok {xs zs ys : List Int} (h : (turnM xs zs ys).2.2 = true) : tensorOk (turnM xs zs ys).1 (turnM xs zs ys).2.1 = true := by
  unfold turnM at h ⊢
  split at h
  · rename_i ht
    rw [if_pos ht]
    exact map_ok (turn_facts ((tensorOk_iff _ _).1 ht.1).1 ht.2).sh fun i => num_any ht.1 _
  · cases h
theorem cut_ok {xs zs : List Int} {i f m : Int} (h : (cutM xs zs i f m).2.2 = true) : tensorOk (cutM xs zs i f m).1 (cutM xs zs i f m).2.1 = true := by
  by_cases hp : cutP xs zs i f m
  · obtain ⟨a, rfl⟩ : ∃ a : Nat, i = a := ⟨i.toNat, by have := hp.2.1; omega⟩
    rw [cutM_t hp]
    exact map_ok (cut_facts' hp).2.2.sh fun i => num_any hp.1 _
  · rw [cutM_f hp] at h; cases h
theorem bs_ok {xs zs ps qs : List Int} {i : Int} (h : (bsM xs zs ps qs i).2.2 = true) : tensorOk (bsM xs zs ps qs i).1 (bsM xs zs ps qs i).2.1 = true := by
  by_cases hp : bsP xs zs ps qs i
  · obtain ⟨a, rfl⟩ : ∃ a : Nat, i = a := ⟨i.toNat, by have := hp.2.2.1; omega⟩
    rw [bsM_t hp]
    obtain ⟨h1, h2, h3, h4, h5⟩ := hp
    have s1 := ((tensorOk_iff _ _).1 h1).1
    have s2 := ((tensorOk_iff _ _).1 h2).1
    rw [Int.toNat_natCast] at h4 h5
    have hlp : ps.length = xs.length := by rw [h4]; simp
    have hz := size_in s2 (j := a) (by omega)
    refine map_ok ((bs_facts s1 (a := a) (by omega) hz).good h5).1 fun i => ?_
    unfold bsPick; split
    · exact num_any h1 _
    · exact num_any h2 _
  · rw [bsM_f hp] at h; cases h
theorem sum_ok {xs zs : List Int} {i : Int} (h : (sumM xs zs i).2.2 = true) : tensorOk (sumM xs zs i).1 (sumM xs zs i).2.1 = true := by
  unfold sumM at h ⊢
  split at h
  · rename_i ht; rw [if_pos ht]; exact told_ok h
  · cases h
theorem pr_ok {xs zs ps qs : List Int} (h : (prM xs zs ps qs).2.2 = true) : tensorOk (prM xs zs ps qs).1 (prM xs zs ps qs).2.1 = true := by
  unfold prM at h ⊢
  split at h
  · rename_i ht; rw [if_pos ht]; exact told_ok h
  · cases h
theorem two_ok {op : Int} {xs zs ps qs : List Int} (h : (twoM op xs zs ps qs).2.2 = true) : tensorOk (twoM op xs zs ps qs).1 (twoM op xs zs ps qs).2.1 = true := by
  unfold twoM at h ⊢
  split at h
  · rename_i ht; rw [if_pos ht]; exact told_ok h
  · cases h
theorem com_ok {x : Nd} {xs zs ps qs : List Int} (h : (comM x xs zs ps qs).2.2 = true) : tensorOk (comM x xs zs ps qs).1 (comM x xs zs ps qs).2.1 = true := by
  unfold comM at h ⊢
  split at h
  · rename_i o; rw [if_pos o]; exact neg_ok h
  · rename_i o; rw [if_neg o]
    split at h
    · rename_i o; rw [if_pos o]; exact sum_ok h
    · rename_i o; rw [if_neg o]
      split at h
      · rename_i o; rw [if_pos o]; exact turn_ok h
      · rename_i o; rw [if_neg o]
        split at h
        · rename_i o; rw [if_pos o]; exact fold_ok h
        · rename_i o; rw [if_neg o]
          split at h
          · rename_i o; rw [if_pos o]; exact cut_ok h
          · rename_i o; rw [if_neg o]
            split at h
            · rename_i o; rw [if_pos o]; exact bs_ok h
            · rename_i o; rw [if_neg o]
              split at h
              · rename_i o; rw [if_pos o]; exact pr_ok h
              · rename_i o; rw [if_neg o]; exact two_ok h
theorem vlM_ok {x : Nd} {ts vs : List T2} (hp : vPre x ts vs) (h : (vlM x ts vs).2.2 = true) : tensorOk (vlM x ts vs).1 (vlM x ts vs).2.1 = true := by
  obtain ⟨⟨f1, f2, f3, f4, f5, f6, f7⟩, hts, hvs, -, -⟩ := hp
  by_cases o0 : x.op = 0
  · have e : vlM x ts vs = ((ts.getD x.a.toNat ([], [])).1, (ts.getD x.a.toNat ([], [])).2, true) := if_pos o0
    have := f4 o0
    rw [e]; exact hts _ (by omega)
  · by_cases o1 : x.op = 1
    · have e : vlM x ts vs = ([], [x.a], true) := by unfold vlM; rw [if_neg o0, if_pos o1]
      have := f5 o1
      rw [e]
      refine tensorOk_t rfl rfl fun j hj => ?_
      have : j = 0 := by simpa using hj
      subst this
      show -1000000000 ≤ x.a ∧ x.a ≤ 1000000000
      omega
    · have e : vlM x ts vs = comM x (vs.getD x.a.toNat ([], [])).1 (vs.getD x.a.toNat ([], [])).2 (vs.getD x.b.toNat ([], [])).1 (vs.getD x.b.toNat ([], [])).2 := by unfold vlM; rw [if_neg o0, if_neg o1]
      rw [e] at h ⊢
      exact com_ok h
/-- The tensors of the first nodes. -/
def vaTo (ns : List Nd) (ts : List T2) : Nat → Option (List T2)
  | 0 => some []
  | k + 1 => (vaTo ns ts k).bind fun vs => if (vlM (ns.getD k default) ts vs).2.2 = true then some (vs ++ [((vlM (ns.getD k default) ts vs).1, (vlM (ns.getD k default) ts vs).2.1)]) else none
theorem vaTo_t {ns : List Nd} {ts vs : List T2} {k : Nat} (h : vaTo ns ts k = some vs) (hp : (vlM (ns.getD k default) ts vs).2.2 = true) : vaTo ns ts (k + 1) = some (vs ++ [((vlM (ns.getD k default) ts vs).1, (vlM (ns.getD k default) ts vs).2.1)]) := by
  rw [vaTo, h]; exact if_pos hp
theorem vaTo_f {ns : List Nd} {ts vs : List T2} {k : Nat} (h : vaTo ns ts k = some vs) (hp : (vlM (ns.getD k default) ts vs).2.2 = false) : vaTo ns ts (k + 1) = none := by
  rw [vaTo, h]; exact if_neg (by rw [hp]; decide)
theorem vaTo_none {ns : List Nd} {ts : List T2} {k : Nat} (h : vaTo ns ts k = none) : ∀ n, k ≤ n → vaTo ns ts n = none
  | 0, hk => by
    have : k = 0 := by omega
    rw [← this]; exact h
  | n + 1, hk => by
    by_cases e : k = n + 1
    · rw [← e]; exact h
    · rw [vaTo, vaTo_none h n (by omega)]; rfl
theorem vaTo_len {ns : List Nd} {ts : List T2} : ∀ {k : Nat} {vs : List T2}, vaTo ns ts k = some vs → vs.length = k
  | 0, vs, h => by cases h; rfl
  | k + 1, vs, h => by
    cases e : vaTo ns ts k with
    | none => rw [vaTo, e] at h; cases h
    | some s =>
      cases hp : (vlM (ns.getD k default) ts s).2.2 with
      | true => rw [vaTo_t e hp] at h; cases h; rw [List.length_append, vaTo_len e]; rfl
      | false => rw [vaTo_f e hp] at h; cases h
theorem allT_snoc {vs : List T2} {y : T2} (h : allT vs) (hy : tensorOk y.1 y.2 = true) : allT (vs ++ [y]) := fun j hj => by
  rw [List.length_append] at hj
  by_cases hjl : j < vs.length
  · have : (vs ++ [y]).getD j ([], []) = vs.getD j ([], []) := by simp [List.getD, List.getElem?_append_left hjl]
    rw [this]; exact h j hjl
  · have e : j = vs.length := by simp at hj; omega
    subst e
    have : (vs ++ [y]).getD vs.length ([], []) = y := by simp [List.getD]
    rw [this]; exact hy
theorem inP_allT {xss : List (List Int)} {ns : List Nd} {ts : List T2} (h : inP xss ns ts) : allT ts := fun j hj => (h.2.2 j hj).1
theorem vPre_of {xss : List (List Int)} {ns : List Nd} {ts vs : List T2} {k : Nat} (h : inP xss ns ts) (hE : eP ns) (hk : k < ns.length) (hl : vs.length = k) (hv : allT vs) : vPre (ns.getD k default) ts vs := by
  have hf := (shM_form h.1).2 k hk
  rw [← hl, ← h.2.1] at hf
  obtain ⟨e1, e2⟩ := hE k hk
  rw [hl] at hf
  exact ⟨by rw [hl]; exact hf, inP_allT h, hv, e1, e2⟩
theorem vaTo_ok {xss : List (List Int)} {ns : List Nd} {ts : List T2} (h : inP xss ns ts) (hE : eP ns) : ∀ {k : Nat} {vs : List T2}, k ≤ ns.length → vaTo ns ts k = some vs → allT vs
  | 0, vs, _, e => by cases e; intro j hj; simp at hj
  | k + 1, vs, hk, e => by
    cases e0 : vaTo ns ts k with
    | none => rw [vaTo, e0] at e; cases e
    | some s =>
      have ih := vaTo_ok h hE (by omega) e0
      have hl := vaTo_len e0
      cases hp : (vlM (ns.getD k default) ts s).2.2 with
      | false => rw [vaTo_f e0 hp] at e; cases e
      | true =>
        rw [vaTo_t e0 hp] at e; cases e
        exact allT_snoc ih (vlM_ok (vPre_of h hE (by omega) hl ih) hp)
def vaM (xss : List (List Int)) (ns : List Nd) (ts : List T2) : List T2 × Bool := if inP xss ns ts then (match vaTo ns ts ns.length with | some vs => (vs, true) | none => ([], false)) else ([], false)
theorem vaM_t {xss : List (List Int)} {ns : List Nd} {ts vs : List T2} (h : inP xss ns ts) (e : vaTo ns ts ns.length = some vs) : vaM xss ns ts = (vs, true) := by unfold vaM; rw [if_pos h, e]
theorem vaM_n {xss : List (List Int)} {ns : List Nd} {ts : List T2} (e : vaTo ns ts ns.length = none) : vaM xss ns ts = ([], false) := by unfold vaM; rw [e]; split <;> rfl
theorem vaM_f {xss : List (List Int)} {ns : List Nd} {ts : List T2} (h : ¬ inP xss ns ts) : vaM xss ns ts = ([], false) := if_neg h
def sValuesOf : CSpec := fnRB (ι := Nat × List (List Int) × List Nd × Nat × List T2) 40 2 (fun | (c, xss, ns, d, ts) => [.agg [.sl c xss.length (xss.map (slI c)), .sl c ns.length (ns.flatMap (ndC c))], .sl d ts.length (ts.flatMap (tnC d))]) (fun | (_, _, ns, _, _) => eP ns) (fun | (_, xss, ns, _, ts) => (vaM xss ns ts).1.length) (fun | (_, xss, ns, _, ts) => (vaM xss ns ts).1.flatMap (tnO 3)) (fun | (_, xss, ns, _, ts) => (vaM xss ns ts).2)
end Go.Proofs.Ytjmdhfjemaoebaa

/- Chapter 7: directions added to inputs: what they are together. -/
namespace Go.Proofs.Ytjmdhfjemaoebaa
set_option maxRecDepth 20000
open Go.RowKit Go.Am
set_option linter.unusedSimpArgs false
def sgC (ts us : List T2) (n : Int) : Prop := ts.length ≤ 3 ∧ us.length = ts.length ∧ -9 ≤ n ∧ n ≤ 9
instance (ts us : List T2) (n : Int) : Decidable (sgC ts us n) := by unfold sgC; infer_instance
/-- One of the inputs with its direction added. -/
def sg1 (ts us : List T2) (n : Int) (j : Nat) : TM := sfM (ts.getD j t0).1 (ts.getD j t0).2 (us.getD j t0).1 (us.getD j t0).2 n
def sgTo (ts us : List T2) (n : Int) : Nat → Option (List T2)
  | 0 => some []
  | k + 1 => (sgTo ts us n k).bind fun vs => if (sg1 ts us n k).2.2 = true then some (vs ++ [((sg1 ts us n k).1, (sg1 ts us n k).2.1)]) else none
theorem sgTo_t {ts us vs : List T2} {n : Int} {k : Nat} (h : sgTo ts us n k = some vs) (hp : (sg1 ts us n k).2.2 = true) : sgTo ts us n (k + 1) = some (vs ++ [((sg1 ts us n k).1, (sg1 ts us n k).2.1)]) := by
  rw [sgTo, h]; exact if_pos hp
theorem sgTo_f {ts us vs : List T2} {n : Int} {k : Nat} (h : sgTo ts us n k = some vs) (hp : (sg1 ts us n k).2.2 = false) : sgTo ts us n (k + 1) = none := by
  rw [sgTo, h]; exact if_neg (by rw [hp]; decide)
theorem sgTo_none {ts us : List T2} {n : Int} {k : Nat} (h : sgTo ts us n k = none) : ∀ m, k ≤ m → sgTo ts us n m = none
  | 0, hk => by
    have : k = 0 := by omega
    rw [← this]; exact h
  | m + 1, hk => by
    by_cases e : k = m + 1
    · rw [← e]; exact h
    · rw [sgTo, sgTo_none h m (by omega)]; rfl
theorem sgTo_len {ts us : List T2} {n : Int} : ∀ {k : Nat} {vs : List T2}, sgTo ts us n k = some vs → vs.length = k
  | 0, vs, h => by cases h; rfl
  | k + 1, vs, h => by
    cases e : sgTo ts us n k with
    | none => rw [sgTo, e] at h; cases h
    | some s =>
      cases hp : (sg1 ts us n k).2.2 with
      | true => rw [sgTo_t e hp] at h; cases h; rw [List.length_append, sgTo_len e]; rfl
      | false => rw [sgTo_f e hp] at h; cases h
def sgM (ts us : List T2) (n : Int) : List T2 × Bool := if sgC ts us n then (match sgTo ts us n ts.length with | some vs => (vs, true) | none => ([], false)) else ([], false)
theorem sgM_t {ts us vs : List T2} {n : Int} (h : sgC ts us n) (e : sgTo ts us n ts.length = some vs) : sgM ts us n = (vs, true) := by unfold sgM; rw [if_pos h, e]
theorem sgM_n {ts us : List T2} {n : Int} (e : sgTo ts us n ts.length = none) : sgM ts us n = ([], false) := by unfold sgM; rw [e]; split <;> rfl
theorem sgM_f {ts us : List T2} {n : Int} (h : ¬ sgC ts us n) : sgM ts us n = ([], false) := if_neg h
theorem sg1_ok {ts us : List T2} {n : Int} {j : Nat} (h : (sg1 ts us n j).2.2 = true) : tensorOk (sg1 ts us n j).1 (sg1 ts us n j).2.1 = true := by
  unfold sg1 sfM at h ⊢
  split at h
  · rename_i hc; rw [if_pos hc]; exact told_ok h
  · cases h
theorem sgTo_ok {ts us : List T2} {n : Int} : ∀ {k : Nat} {vs : List T2}, sgTo ts us n k = some vs → allT vs
  | 0, vs, h => by cases h; intro j hj; simp at hj
  | k + 1, vs, h => by
    cases e : sgTo ts us n k with
    | none => rw [sgTo, e] at h; cases h
    | some s =>
      cases hp : (sg1 ts us n k).2.2 with
      | true => rw [sgTo_t e hp] at h; cases h; exact allT_snoc (sgTo_ok e) (sg1_ok hp)
      | false => rw [sgTo_f e hp] at h; cases h
theorem sgM_all (ts us : List T2) (n : Int) : allT (sgM ts us n).1 ∧ (sgM ts us n).1.length ≤ 3 := by
  by_cases h : sgC ts us n
  · cases e : sgTo ts us n ts.length with
    | some vs =>
      rw [sgM_t h e]
      have := sgTo_len e
      have := h.1
      exact ⟨sgTo_ok e, by show vs.length ≤ 3; omega⟩
    | none => rw [sgM_n e]; exact ⟨fun j hj => by simp at hj, Nat.zero_le _⟩
  · rw [sgM_f h]; exact ⟨fun j hj => by simp at hj, Nat.zero_le _⟩
def sShiftOf : CSpec := fnRB (ι := Nat × List T2 × Nat × List T2 × Int) 40 2 (fun | (c, ts, d, us, n) => [.sl c ts.length (ts.flatMap (tnC c)), .sl d us.length (us.flatMap (tnC d)), .int .i64 n]) (fun | (_, ts, _, us, n) => ts.length ≤ 1048576 ∧ us.length ≤ 1048576 ∧ (Lit.int .i64 n).wf = true) (fun | (_, ts, _, us, n) => (sgM ts us n).1.length) (fun | (_, ts, _, us, n) => (sgM ts us n).1.flatMap (tnO 3)) (fun | (_, ts, _, us, n) => (sgM ts us n).2)
end Go.Proofs.Ytjmdhfjemaoebaa

/- Chapter 3: rows of tensors that grow. -/
namespace Go.Proofs.Ytjmdhfjemaoebaa
set_option maxRecDepth 20000
open Go.RowKit Go.Am
set_option linter.unusedSimpArgs false
/-- A tensor more in a row of tensors that has room. -/
theorem append_tr {env : List AV} {rows : List Row} {ctr low τ ver n τ' ver' r : Nat} {A : List AV} {u v : AV} {k : AV → St → Prop} (hr : rows[τ]? = some ⟨ver, 40, 2, A ++ (List.replicate r [AV.nil, AV.nil]).flatten⟩) (hn : A.length = n * 2) (hr' : rows[τ']? = some ⟨ver', 40, 2, [u, v]⟩) (hu : u.isOwn = false) (hv : v.isOwn = false) (hle : 1 ≤ r)
    (hk : k (.ref τ ver 0 (n + 1)) ⟨env, rows.set τ ⟨ver, 40, 2, A ++ ([u, v] ++ (List.replicate (r - 1) [AV.nil, AV.nil]).flatten)⟩, ctr, low⟩) : aAppend Try.prog ⟨env, rows, ctr, low⟩ 53 (.ref τ ver 0 n) (.ref τ' ver' 0 1) k := by
  have hb : (bsz Try.prog 40) = some 48 := by kernel_rfl
  have hz : zeroCellsA Try.prog 40 = some [.nil, .nil] := by kernel_rfl
  have hty : Try.prog.underlying 53 = some (.slice 40) := by kernel_rfl
  have hs : ∀ K : Nat → Prop, K 2 → aSz Try.prog 40 K := fun K h => by
    have : tsz Try.prog 40 = some 2 := by kernel_rfl
    unfold aSz; rw [this]; exact h
  have hlen : (A ++ (List.replicate r [AV.nil, AV.nil]).flatten).length = (n + r) * 2 := by
    rw [List.length_append, rep_length, hn, Nat.add_mul]; rfl
  unfold aAppend
  rw [hty]
  simp only
  rw [hz]
  simp only
  refine hs _ ?_
  unfold aElems aRow
  simp only [hr']
  rw [if_pos trivial, if_pos (.inr trivial)]
  refine ⟨⟨by simp, by simp [hu, hv]⟩, ⟨rfl, by rw [hb]; rfl, by rw [hb]; decide⟩, ?_⟩
  simp only [hr]
  rw [if_pos trivial, if_pos (by simp)]
  refine ⟨by rw [hlen]; exact Nat.mul_le_mul_right 2 (by omega), fun h => by omega, fun _ _ => ?_, fun _ h => ?_⟩
  · have e1 : (A ++ (List.replicate r [AV.nil, AV.nil]).flatten).take (n * 2) = A := by rw [← hn]; exact List.take_left
    have e2 : (A ++ (List.replicate r [AV.nil, AV.nil]).flatten).drop (n * 2 + [u, v].length) = (List.replicate (r - 1) [AV.nil, AV.nil]).flatten := by
      rw [← hn, ← List.drop_drop, List.drop_left]
      obtain ⟨m, rfl⟩ : ∃ m, r = m + 1 := ⟨r - 1, by omega⟩
      rw [List.replicate_succ, List.flatten_cons]; rfl
    simp only [Nat.zero_mul, List.drop_zero, Nat.one_mul, List.take_of_length_le (show [u, v].length ≤ 2 from Nat.le_refl _)]
    rw [e1, e2]
    simpa [St.setRow, Row.putC] using hk
  · exfalso; rw [hlen] at h; simp at h; omega
theorem cut_room {f : Nat} {t : TypeId} {vs : List T2} {B : List AV} {K : List AV → Prop} (hK : K (vs.flatMap (tnC 0))) : aCut (f + 2) (vs.flatMap (tnO t) ++ B) 0 (vs.length * 2) K := by
  have e : (vs.flatMap (tnO t)).length = vs.length * 2 := flat_len (tnO_length t) vs
  refine ⟨by rw [List.length_append, e]; omega, vs.flatMap (tnC 0), ?_, hK⟩
  rw [List.drop_zero, List.take_left' (by rw [e])]
  exact trL_flat (trL_tnO f t) vs
theorem get_a0 {A B : List AV} {n : Nat} {u v : AV} (h : A.length = n * 2) : (A ++ ([u, v] ++ B))[n * 2 + 0]? = some u := get_mid (i := 0) (by rw [h]) rfl
theorem get_a1 {A B : List AV} {n : Nat} {u v x : AV} (h : A.length = n * 2) : ((A ++ ([u, v] ++ B)).set (n * 2 + 0) x)[n * 2 + 1]? = some v := by
  rw [set_mid (i := 0) (by rw [h]) (by simp)]; exact get_mid (i := 1) (by rw [h]) rfl
theorem le_snocT {t : TypeId} {vs : List T2} {n r r' : Nat} {xs ys : List Int} {u v : AV} {p : Prop} (hn : n = vs.length) (he : r' = r) : (pureL (((vs.flatMap (tnO t) ++ ([u, v] ++ (List.replicate r [AV.nil, AV.nil]).flatten)).set (n * 2 + 0) (ownI t xs)).set (n * 2 + 1) (ownI t ys)) = true ∧ (vs ++ [(xs, ys)]).flatMap (tnO t) ++ (List.replicate r' [AV.nil, AV.nil]).flatten = ((vs.flatMap (tnO t) ++ ([u, v] ++ (List.replicate r [AV.nil, AV.nil]).flatten)).set (n * 2 + 0) (ownI t xs)).set (n * 2 + 1) (ownI t ys)) ∨ p := by
  subst he; subst hn
  have e : (vs.flatMap (tnO t)).length = vs.length * 2 := flat_len (tnO_length t) vs
  refine le_cells ?_ (pureL_app (pureL_otn _ _) (pureL_repF _ rfl _))
  rw [set_mid (i := 0) (by rw [e]) (by simp), set_mid (i := 1) (by rw [e]) (by simp)]
  simp [tnO]
theorem tree_ts {env : List AV} {rows : List Row} {ctr low R vR : Nat} {T : List Nat} {vs : List T2} (hR : rows[R]? = some ⟨vR, 40, 2, vs.flatMap (tnO 3)⟩) (hne : R ∉ T) : (⟨env, rows, ctr, low⟩ : St).tree T 4 (.ref R vR 0 vs.length) = some (.sl 0 vs.length (vs.flatMap (tnC 0))) := by
  have e : (vs.flatMap (tnO 3)).length = vs.length * 2 := flat_len (tnO_length _) vs
  refine tree_ref hR ⟨rfl, by show 0 + vs.length * 2 ≤ (vs.flatMap (tnO 3)).length; rw [e]; omega, hne⟩ ?_
  show (((vs.flatMap (tnO 3)).drop 0).take (vs.length * 2)).mapM _ = _
  rw [List.drop_zero, List.take_of_length_le (by rw [e]; exact Nat.le_refl _)]
  exact mapM_imp (fun a b e => tr_tree 3 a b e) (trL_flat (trL_tnO 1 _) vs)
/-- A tensor more in a row of tensors, which grows. -/
theorem append_tl {env : List AV} {rows : List Row} {ctr low τ ver n τ' ver' : Nat} {A : List AV} {u v : AV} {k : AV → St → Prop} (hr : rows[τ]? = some ⟨ver, 40, 2, A⟩) (hn : A.length = n * 2) (hr' : rows[τ']? = some ⟨ver', 40, 2, [u, v]⟩) (hu : u.isOwn = false) (hv : v.isOwn = false) (hle : n ≤ 1000) (hlow : low ≤ τ)
    (hk : k (.ref τ ctr 0 (n + 1)) ⟨env, rows.set τ ⟨ctr, 40, 2, A ++ [u, v]⟩, ctr + 1, low⟩) : aAppend Try.prog ⟨env, rows, ctr, low⟩ 53 (.ref τ ver 0 n) (.ref τ' ver' 0 1) k := by
  have hb : (bsz Try.prog 40) = some 48 := by kernel_rfl
  have hz : zeroCellsA Try.prog 40 = some [.nil, .nil] := by kernel_rfl
  have hty : Try.prog.underlying 53 = some (.slice 40) := by kernel_rfl
  have hs : ∀ K : Nat → Prop, K 2 → aSz Try.prog 40 K := fun K h => by
    have : tsz Try.prog 40 = some 2 := by kernel_rfl
    unfold aSz; rw [this]; exact h
  unfold aAppend
  rw [hty]
  simp only
  rw [hz]
  simp only
  refine hs _ ?_
  unfold aElems aRow
  simp only [hr']
  rw [if_pos trivial, if_pos (.inr trivial)]
  refine ⟨⟨by simp, by simp [hu, hv]⟩, ⟨rfl, by rw [hb]; rfl, by rw [hb]; decide⟩, ?_⟩
  simp only [hr]
  rw [if_pos trivial, if_pos (by simp)]
  refine ⟨by rw [hn]; exact Nat.le_refl _, fun h => by omega, fun _ h => by exfalso; rw [hn] at h; omega, fun _ _ => ⟨hlow, by rw [hb]; simp only [Option.getD_some]; omega, ?_⟩⟩
  have e : A.take (n * 2) = A := List.take_of_length_le (by omega)
  rw [e]
  simpa using hk
theorem get_b0 {A : List AV} {n : Nat} {u v : AV} (h : A.length = n * 2) : (A ++ [u, v])[n * 2 + 0]? = some u := by
  have := get_a0 (B := []) (u := u) (v := v) h; simpa using this
theorem get_b1 {A : List AV} {n : Nat} {u v x : AV} (h : A.length = n * 2) : ((A ++ [u, v]).set (n * 2 + 0) x)[n * 2 + 1]? = some v := by
  have := get_a1 (B := []) (u := u) (v := v) (x := x) h; simpa using this
theorem le_snocU {t : TypeId} {vs : List T2} {n : Nat} {xs ys : List Int} {u v : AV} {p : Prop} (hn : n = vs.length) : (pureL (((vs.flatMap (tnO t) ++ [u, v]).set (n * 2 + 0) (ownI t xs)).set (n * 2 + 1) (ownI t ys)) = true ∧ (vs ++ [(xs, ys)]).flatMap (tnO t) = ((vs.flatMap (tnO t) ++ [u, v]).set (n * 2 + 0) (ownI t xs)).set (n * 2 + 1) (ownI t ys)) ∨ p := by
  have := le_snocT (t := t) (vs := vs) (n := n) (r := 0) (r' := 0) (xs := xs) (ys := ys) (u := u) (v := v) (p := p) hn rfl
  simpa using this
theorem retVs {env : List AV} {rows : List Row} {ctr τ ver m : Nat} {t e : TypeId} {vs : List T2} {b : Bool} {M : List T2 × Bool} {cells : List AV} (hM : M = (vs, b)) (hr : rows[τ]? = some ⟨ver, t, 2, cells⟩) (hc : cells = vs.flatMap (tnO e)) (hm : m = vs.length) :
    RetB ⟨env, rows, ctr, 0⟩ [] (fun r ic news => ic = [] ∧ r = .tup [.ref 0 0 0 M.1.length, .bool M.2] ∧ news = [⟨0, t, 2, M.1.flatMap (tnO e)⟩]) (.tup [.ref τ ver 0 m, .bool b]) := by
  subst hM; subst hc
  exact retRB hr (protL_otn _ _) hm rfl rfl
end Go.Proofs.Ytjmdhfjemaoebaa

/- Chapter 7: ShiftOf of both sides. -/
namespace Go.Proofs.Ytjmdhfjemaoebaa
set_option maxRecDepth 20000
open Go.RowKit Go.Am
set_option linter.unusedSimpArgs false
attribute [local irreducible] aPlan aGet aIf aLoop aCall RetB NextB CallB CallG aCut aSet aAppend
def sShift1 : CSpec := fnTB (ι := Nat × List Int × Nat × List Int × Nat × List Int × Nat × List Int × Int) 3 (fun | (c, xs, d, zs, e, ps, f, qs, n) => [.agg [.sl c xs.length (xs.map (.int .i64)), .sl d zs.length (zs.map (.int .i64))], .agg [.sl e ps.length (ps.map (.int .i64)), .sl f qs.length (qs.map (.int .i64))], .int .i64 n]) (fun _ => True) (fun | (_, xs, _, zs, _, ps, _, qs, n) => sfM xs zs ps qs n)
set_option maxHeartbeats 4000000 in
theorem shiftOne_sound : Sound Try.prog 76 sShift1 := by
  refine sound_of Try.func76 rfl (enters_of Try.func76 (by kernel_rfl) (by kernel_rfl)) ?_
  rintro ⟨c, xs, d, zs, e, ps, f, qs, n⟩ -
  have hmax : maxLen = 9223372036854775807 := rfl
  by_cases hC : sfC xs zs ps qs
  · have hM := sfM_t (n := n) hC
    obtain ⟨h1, h2, h3⟩ := hC
    have hl := dtC_len h1 h2 h3
    have hx := tensor_len h1
    conv => whnf
    repeat' (first
      | (refine aIf_t ?_; conv => whnf)
      | (refine aIf_f ?_; conv => whnf)
      | (refine fun (_ : _ ≤ maxLen) => ?_; conv => whnf)
      | (refine aGet_in rfl ?_; conv => whnf)
      | (refine And.intro (And.intro (Int.le_refl _) (And.intro (by kernel_rfl) (And.intro rfl (by kernel_rfl)))) (And.intro (And.intro (by omega) (And.intro (bytes_le (b := 8) rfl (by omega)) (by omega))) ?_); conv => whnf)
      | (refine load_same ?_; conv => whnf)
      | (refine And.intro rfl (And.intro (List.cons_ne_nil _ _) ?_); conv => whnf)
      | (refine And.intro (Nat.le_of_ble_eq_true rfl) ?_; conv => whnf)
      | (refine callG_t ?_; conv => whnf)
      | (refine iTensorOk_call ?_; conv => whnf)
      | (refine append_same ?_; conv => whnf)
      | (refine takeN_in ?_; conv => whnf)
      | (refine And.intro (pureL_ints _ _) ?_; conv => whnf)
      | (refine sameNums_call ?_; conv => whnf)
      | (refine set_force ?_; conv => whnf)
      | (refine And.intro (by kernel_rfl) ?_; conv => whnf)
      | (refine aIf_tt (by assumption) ?_; conv => whnf)
      | refine aIf_eqf ?_
      | refine aIf_not ?_
      | (refine aIf_dec (fun _ => ?_) (fun _ => ?_) <;> conv => whnf))
    all_goals (first | (exfalso; omega) | contradiction | skip)
    refine loop_u (ι := Nat × List Int) [false, false, true, true, true, false, true, false, true, false, false, false, false, false, false, false, false, false, false, false, false, false, false, false, false, false, false, false, false, false, false, false, false, true, true, true, false, false, false, false, false, false, false, false, false, false, false, false, false, false, false, false, false, false, false, false, false, false, false, false] (fun | (k, _) => [(35, .int .i64 k)]) (fun | (_, ws) => [(5, ws.map (.int .i64))]) (fun x => x.1 ≤ zs.length ∧ x.2.length = zs.length ∧ ∀ j, j < x.1 → x.2.getD j 0 = (sfL zs qs n).getD j 0) (fun x => zs.length - x.1) ((0, List.replicate zs.length 0)) ⟨Nat.zero_le _, by simp, fun j hj => absurd hj (Nat.not_lt_zero _)⟩ ?_ ?_
    · conv => whnf
      repeat' (first
        | exact trivial
        | exact rfl
        | exact pureL_ints _ _
        | exact Or.inl (And.intro rfl rfl)
        | exact le_ints (rep_ints _ _)
        | exact Or.inl (And.intro (pureL_pair _ _ _ _ _ _) rfl)
        | refine Or.inr ?_
        | refine And.intro ?_ ?_
        | exact Nat.le_of_ble_eq_true rfl)
    · rintro ⟨k, ws⟩ ⟨hk, hwl, hall⟩
      have hk : k ≤ zs.length := hk
      have hwl : ws.length = zs.length := hwl
      have hall : ∀ j, j < k → ws.getD j 0 = (sfL zs qs n).getD j 0 := hall
      by_cases hlt : k < zs.length
      · have hg := sfL_getD (ws := qs) (n := n) hlt
        conv => whnf
        repeat' (first
          | (refine get_nat (by omega) ?_; conv => whnf)
          | (refine aGet_in rfl ?_; conv => whnf)
          | (refine And.intro (by omega) ?_; conv => whnf)
          | (refine orNone_call _ _ rfl rfl (by decide) (by first | rfl | omega) (by first | rfl | omega) (fun _ => ?_) (fun _ => ?_) <;> conv => whnf)
          | (refine callG_t ?_; conv => whnf)
          | (refine copyNums_call (by omega) ?_; conv => whnf)
          | (refine append_same ?_; conv => whnf)
          | (refine takeN_in ?_; conv => whnf)
          | (refine And.intro rfl (And.intro rfl (And.intro (by first | omega | (rw [List.length_map]; omega)) ?_)); conv => whnf)
          | (refine set_nat ?_ (by omega); conv => whnf)
          | (refine set_force ?_; conv => whnf)
          | (refine aIf_dec (fun _ => ?_) (fun _ => ?_) <;> conv => whnf))
        all_goals (first | (exfalso; omega) | skip)
        refine next_u (k + 1, ws.set k ((sfL zs qs n).getD k 0)) (show zs.length - (k + 1) < zs.length - k by omega) ⟨(show k + 1 ≤ zs.length by omega), (show (ws.set k _).length = _ by simpa using hwl), fun j hj => ?_⟩ ?_
        · have hj : j < k + 1 := hj
          show (ws.set k ((sfL zs qs n).getD k 0)).getD j 0 = _
          rw [getD_set (by omega)]
          split
          · rename_i e'; rw [e']
          · exact hall j (by omega)
        · rw [hg]
          conv => whnf
          repeat' (first
            | exact trivial
            | exact rfl
            | exact pureL_ints _ _
            | exact Or.inl (And.intro rfl rfl)
            | exact le_ints rfl
            | exact Or.inl (And.intro (pureL_pair _ _ _ _ _ _) rfl)
            | refine Or.inr ?_
            | refine And.intro ?_ ?_
            | exact Nat.le_of_ble_eq_true rfl
            | exact int_eq (by rw [IntWalk.i64_in _ (by omega)] <;> omega))
      · have hws : ws = sfL zs qs n := getD_ext (by rw [sfL_length, hwl]) fun j hj => by
          rw [sfL_length] at hj
          exact hall j (by omega)
        subst hws
        conv => whnf
        repeat' (first
          | (refine get_nat (by omega) ?_; conv => whnf)
          | (refine aGet_in rfl ?_; conv => whnf)
          | (refine And.intro (by omega) ?_; conv => whnf)
          | (refine And.intro (Nat.le_of_ble_eq_true rfl) ?_; conv => whnf)
          | (refine orNone_call _ _ rfl rfl (by decide) (by first | rfl | omega) (by first | rfl | omega) (fun _ => ?_) (fun _ => ?_) <;> conv => whnf)
          | (refine callG_t ?_; conv => whnf)
          | (refine copyNums_call (by omega) ?_; conv => whnf)
          | (refine append_same ?_; conv => whnf)
          | (refine takeN_in ?_; conv => whnf)
          | (refine And.intro (pureL_ints _ _) ?_; conv => whnf)
          | (refine set_nat ?_ (by omega); conv => whnf)
          | (refine set_force ?_; conv => whnf)
          | (refine And.intro (by kernel_rfl) ?_; conv => whnf)
          | (refine aIf_dec (fun _ => ?_) (fun _ => ?_) <;> conv => whnf))
        all_goals (first | (exfalso; omega) | skip)
        all_goals (first | (refine retTB (hM := hM.trans (told_t (by assumption))) ?_ ?_ ?_ ?_ ?_ <;> first | exact rfl | decide | (simp; done)) | (refine retTB (hM := hM.trans (told_f (by assumption))) ?_ ?_ ?_ ?_ ?_ <;> first | exact rfl | decide | (simp; done)))
  · have hM := sfM_f (n := n) hC
    cases h1 : tensorOk xs zs with
    | false =>
      conv => whnf
      repeat' (first
        | (refine aIf_t ?_; conv => whnf)
        | (refine aIf_f ?_; conv => whnf)
        | (refine load_same ?_; conv => whnf)
        | (refine And.intro rfl (And.intro (List.cons_ne_nil _ _) ?_); conv => whnf)
        | (refine And.intro (Nat.le_of_ble_eq_true rfl) ?_; conv => whnf)
        | (refine callG_t ?_; conv => whnf)
        | (refine iTensorOk_call ?_; conv => whnf)
        | (refine append_same ?_; conv => whnf)
        | (refine takeN_in ?_; conv => whnf)
        | (refine And.intro (pureL_ints _ _) ?_; conv => whnf)
        | (refine set_force ?_; conv => whnf)
        | (refine And.intro (by kernel_rfl) ?_; conv => whnf)
        | (refine aIf_ff (by assumption) ?_; conv => whnf)
        | refine aIf_eqf ?_
        | refine aIf_not ?_)
      all_goals (first | (exfalso; omega) | contradiction | skip)
      all_goals (refine retTB (hM := hM) ?_ ?_ ?_ ?_ ?_ <;> first | exact rfl | decide | (simp; done))
    | true =>
      cases h2 : tensorOk ps qs with
      | false =>
        conv => whnf
        repeat' (first
          | (refine aIf_t ?_; conv => whnf)
          | (refine aIf_f ?_; conv => whnf)
          | (refine load_same ?_; conv => whnf)
          | (refine And.intro rfl (And.intro (List.cons_ne_nil _ _) ?_); conv => whnf)
          | (refine And.intro (Nat.le_of_ble_eq_true rfl) ?_; conv => whnf)
          | (refine callG_t ?_; conv => whnf)
          | (refine iTensorOk_call ?_; conv => whnf)
          | (refine append_same ?_; conv => whnf)
          | (refine takeN_in ?_; conv => whnf)
          | (refine And.intro (pureL_ints _ _) ?_; conv => whnf)
          | (refine set_force ?_; conv => whnf)
          | (refine And.intro (by kernel_rfl) ?_; conv => whnf)
          | (refine aIf_tt (by assumption) ?_; conv => whnf)
          | (refine aIf_ff (by assumption) ?_; conv => whnf)
          | refine aIf_eqf ?_
          | refine aIf_not ?_)
        all_goals (first | (exfalso; omega) | contradiction | skip)
        all_goals (refine retTB (hM := hM) ?_ ?_ ?_ ?_ ?_ <;> first | exact rfl | decide | (simp; done))
      | true =>
        have h3 : ¬ xs = ps := fun e => hC ⟨h1, h2, e⟩
        conv => whnf
        repeat' (first
          | (refine aIf_t ?_; conv => whnf)
          | (refine aIf_f ?_; conv => whnf)
          | (refine fun (_ : _ ≤ maxLen) => ?_; conv => whnf)
          | (refine aGet_in rfl ?_; conv => whnf)
          | (refine load_same ?_; conv => whnf)
          | (refine And.intro rfl (And.intro (List.cons_ne_nil _ _) ?_); conv => whnf)
          | (refine And.intro (Nat.le_of_ble_eq_true rfl) ?_; conv => whnf)
          | (refine callG_t ?_; conv => whnf)
          | (refine iTensorOk_call ?_; conv => whnf)
          | (refine append_same ?_; conv => whnf)
          | (refine takeN_in ?_; conv => whnf)
          | (refine And.intro (pureL_ints _ _) ?_; conv => whnf)
          | (refine sameNums_call ?_; conv => whnf)
          | (refine set_force ?_; conv => whnf)
          | (refine And.intro (by kernel_rfl) ?_; conv => whnf)
          | (refine aIf_tt (by assumption) ?_; conv => whnf)
          | refine aIf_eqf ?_
          | refine aIf_not ?_
          | (refine aIf_dec (fun _ => ?_) (fun _ => ?_) <;> conv => whnf))
        all_goals (first | (exfalso; omega) | contradiction | skip)
        all_goals (refine retTB (hM := hM) ?_ ?_ ?_ ?_ ?_ <;> first | exact rfl | decide | (simp; done))
theorem shiftOne_call {c d e f : Nat} {xs zs ps qs : List Int} {n : Int} {env : List AV} {rows : List Row} {ctr low : Nat} {k : AV → St → Prop} (hpre : True)
    (hk : k (.tup [.agg [.ref rows.length ctr 0 (sfM xs zs ps qs n).1.length, .ref (rows.length + 1) ctr 0 (sfM xs zs ps qs n).2.1.length], .bool (sfM xs zs ps qs n).2.2]) ⟨env, rows ++ [⟨ctr, 3, 1, (sfM xs zs ps qs n).1.map (.int .i64)⟩, ⟨ctr, 3, 1, (sfM xs zs ps qs n).2.1.map (.int .i64)⟩], ctr + 1, low⟩) :
    CallB Try.prog 76 ⟨env, rows, ctr, low⟩ [.agg [.sl c xs.length (xs.map (.int .i64)), .sl d zs.length (zs.map (.int .i64))], .agg [.sl e ps.length (ps.map (.int .i64)), .sl f qs.length (qs.map (.int .i64))], .int .i64 n] k := callTB_in shiftOne_sound (c, xs, d, zs, e, ps, f, qs, n) hpre hk
set_option maxHeartbeats 4000000 in
theorem iShiftOf_sound : Sound Try.prog 31 sShiftOf := by
  refine sound_of Try.func31 rfl (enters_of Try.func31 (by kernel_rfl) (by kernel_rfl)) ?_
  rintro ⟨c, ts, d, us, n⟩ hpre
  obtain ⟨ht, hu, hn⟩ : ts.length ≤ 1048576 ∧ us.length ≤ 1048576 ∧ (Lit.int .i64 n).wf = true := hpre
  have hmax : maxLen = 9223372036854775807 := rfl
  by_cases hC : sgC ts us n
  · obtain ⟨c1, c2, c3, c4⟩ := hC
    have hC : sgC ts us n := ⟨c1, c2, c3, c4⟩
    conv => whnf
    repeat' (first
      | (refine tree_in (id := 7) (.one 0 (.one 1 (.one 2 (.one 3 (.one 4 (.one 5 (.two 6 10 (.one 7 (.one 8 (.one 9 (.one 10 (.one 11 (.one 12 .nil)))))) (.one 6 (.one 7 (.one 8 (.one 9 (.one 11 (.one 12 .nil))))))))))))) (by kernel_rfl) (by kernel_rfl) ?_; conv => whnf)
      | (refine aIf_t ?_; conv => whnf)
      | (refine aIf_f ?_; conv => whnf)
      | (refine fun (_ : _ ≤ maxLen) => ?_; conv => whnf)
      | (refine append_same ?_; conv => whnf)
      | (refine And.intro (And.intro (by kernel_rfl) (And.intro rfl (Nat.le_of_ble_eq_true rfl))) ?_; conv => whnf)
      | refine aIf_eqf ?_
      | refine aIf_not ?_
      | (refine aIf_dec (fun _ => ?_) (fun _ => ?_) <;> conv => whnf))
    all_goals (first | (exfalso; omega) | contradiction | skip)
    refine loop_ut (ι := List T2) [false, true, true, false, false, false, false, false, true, false, false, false, false, false, false, false, false, false, false, false, false, false, false, false, false, false, false, false, false, false, false, false, true, true, true, false, false, false, false, false, false, false, false, false, false, false, false, false, false, false, false, false, false, false, false, false, false] (fun vs => [(8, .ref 1 2 0 vs.length), (34, .int .i64 vs.length)]) (fun vs => [(1, vs.flatMap (tnO 3))]) (fun vs => vs.length ≤ ts.length ∧ sgTo ts us n vs.length = some vs) (fun vs => ts.length - vs.length) ([]) ⟨Nat.zero_le _, rfl⟩ ?_ ?_
    · conv => whnf
      refine St.le.to ?_
      conv => whnf
      repeat' (first
        | exact trivial
        | exact rfl
        | exact Or.inl (And.intro rfl rfl)
        | exact pureL_tn _ _
        | refine And.intro ?_ ?_
        | exact Nat.le_of_ble_eq_true rfl)
    · rintro vs ⟨hvl, hva⟩
      have hvl : vs.length ≤ ts.length := hvl
      have hfl : (vs.flatMap (tnO 3)).length = vs.length * 2 := flat_len (tnO_length _) vs
      by_cases hlt : vs.length < ts.length
      · cases hb : (sfM (ts.getD vs.length ([], [])).1 (ts.getD vs.length ([], [])).2 (us.getD vs.length ([], [])).1 (us.getD vs.length ([], [])).2 n).2.2 with
        | true =>
          have hn' : sgTo ts us n (vs.length + 1) = some (vs ++ [((sfM (ts.getD vs.length ([], [])).1 (ts.getD vs.length ([], [])).2 (us.getD vs.length ([], [])).1 (us.getD vs.length ([], [])).2 n).1, (sfM (ts.getD vs.length ([], [])).1 (ts.getD vs.length ([], [])).2 (us.getD vs.length ([], [])).1 (us.getD vs.length ([], [])).2 n).2.1)]) := sgTo_t hva hb
          have hlen : (vs ++ [((sfM (ts.getD vs.length ([], [])).1 (ts.getD vs.length ([], [])).2 (us.getD vs.length ([], [])).1 (us.getD vs.length ([], [])).2 n).1, (sfM (ts.getD vs.length ([], [])).1 (ts.getD vs.length ([], [])).2 (us.getD vs.length ([], [])).1 (us.getD vs.length ([], [])).2 n).2.1)]).length = vs.length + 1 := by simp
          conv => whnf
          repeat' (first
            | (refine tree_in (id := 7) (.one 0 (.one 1 (.one 2 (.one 3 (.one 4 (.one 5 (.two 6 10 (.one 7 (.one 8 (.one 9 (.one 10 (.one 11 (.one 12 .nil)))))) (.one 6 (.one 7 (.one 8 (.one 9 (.one 11 (.one 12 .nil))))))))))))) (by kernel_rfl) (by kernel_rfl) ?_; conv => whnf)
            | (refine fork_in ?_ ?_ <;> conv => whnf)
            | (refine aGet_in rfl ?_; conv => whnf)
            | (refine And.intro (by omega) ?_; conv => whnf)
            | (refine load_same ?_; conv => whnf)
            | (refine And.intro (Nat.le_of_ble_eq_true rfl) ?_; conv => whnf)
            | (refine append_same ?_; conv => whnf)
            | (refine part_tn_n (by omega) ?_; conv => whnf)
            | (refine shiftOne_call trivial ?_; conv => whnf)
            | (refine takeN_in ?_; conv => whnf)
            | (refine And.intro (pureL_ints _ _) ?_; conv => whnf)
            | (refine set_force ?_; conv => whnf)
            | (refine And.intro (And.intro (by kernel_rfl) (And.intro rfl (Nat.le_of_ble_eq_true rfl))) ?_; conv => whnf)
            | (refine And.intro (by kernel_rfl) ?_; conv => whnf)
            | (refine aIf_tt (by assumption) ?_; conv => whnf)
            | refine aIf_not ?_
            | (refine aIf_dec (fun _ => ?_) (fun _ => ?_) <;> conv => whnf))
          all_goals (first | (exfalso; omega) | contradiction | skip)
          all_goals
            refine append_tl rfl hfl rfl rfl rfl (by omega) (Nat.zero_le _) ?_
            conv => whnf
            repeat' (first
              | (refine tree_in (id := 7) (.one 0 (.one 1 (.one 2 (.one 3 (.one 4 (.one 5 (.two 6 10 (.one 7 (.one 8 (.one 9 (.one 10 (.one 11 (.one 12 .nil)))))) (.one 6 (.one 7 (.one 8 (.one 9 (.one 11 (.one 12 .nil))))))))))))) (by kernel_rfl) (by kernel_rfl) ?_; conv => whnf)
              | (refine append_same ?_; conv => whnf))
            refine next_ut (vs ++ [((sfM (ts.getD vs.length ([], [])).1 (ts.getD vs.length ([], [])).2 (us.getD vs.length ([], [])).1 (us.getD vs.length ([], [])).2 n).1, (sfM (ts.getD vs.length ([], [])).1 (ts.getD vs.length ([], [])).2 (us.getD vs.length ([], [])).1 (us.getD vs.length ([], [])).2 n).2.1)]) (show ts.length - (vs ++ [((sfM (ts.getD vs.length ([], [])).1 (ts.getD vs.length ([], [])).2 (us.getD vs.length ([], [])).1 (us.getD vs.length ([], [])).2 n).1, (sfM (ts.getD vs.length ([], [])).1 (ts.getD vs.length ([], [])).2 (us.getD vs.length ([], [])).1 (us.getD vs.length ([], [])).2 n).2.1)]).length < ts.length - vs.length by omega) ⟨(by omega : (vs ++ [((sfM (ts.getD vs.length ([], [])).1 (ts.getD vs.length ([], [])).2 (us.getD vs.length ([], [])).1 (us.getD vs.length ([], [])).2 n).1, (sfM (ts.getD vs.length ([], [])).1 (ts.getD vs.length ([], [])).2 (us.getD vs.length ([], [])).1 (us.getD vs.length ([], [])).2 n).2.1)]).length ≤ ts.length), by rw [hlen]; exact hn'⟩ ?_
            rw [hlen]
            conv => whnf
            first
              | refine to_close 1 (vs.length * 2 + 0) 5 _ _ 1 3 _ _ rfl (get_b0 hfl) rfl (by decide) (Nat.zero_le _) (by decide) (by simp) ?_
              | refine to_close 1 (vs.length * 2 + 0) 8 _ _ 1 3 _ _ rfl (get_b0 hfl) rfl (by decide) (Nat.zero_le _) (by decide) (by simp) ?_
            first
              | refine to_close 1 (vs.length * 2 + 1) 6 _ _ 1 3 _ _ rfl (get_b1 hfl) rfl (by decide) (Nat.zero_le _) (by decide) (by simp) ?_
              | refine to_close 1 (vs.length * 2 + 1) 9 _ _ 1 3 _ _ rfl (get_b1 hfl) rfl (by decide) (Nat.zero_le _) (by decide) (by simp) ?_
            refine St.le.to ?_
            conv => whnf
            repeat' (first | exact le_snocU rfl | refine And.intro ?_ ?_)
            repeat' (first
              | exact trivial
              | exact rfl
              | exact Or.inl (And.intro rfl rfl)
              | exact pureL_tn _ _
              | exact Nat.le_of_ble_eq_true rfl
              | exact int_eq (by rw [IntWalk.i64_in _ (by omega)] <;> omega))
        | false =>
          have hM := sgM_n (sgTo_none (sgTo_f hva hb) _ (show vs.length + 1 ≤ ts.length by omega))
          conv => whnf
          repeat' (first
            | (refine tree_in (id := 7) (.one 0 (.one 1 (.one 2 (.one 3 (.one 4 (.one 5 (.two 6 10 (.one 7 (.one 8 (.one 9 (.one 10 (.one 11 (.one 12 .nil)))))) (.one 6 (.one 7 (.one 8 (.one 9 (.one 11 (.one 12 .nil))))))))))))) (by kernel_rfl) (by kernel_rfl) ?_; conv => whnf)
            | (refine fork_in ?_ ?_ <;> conv => whnf)
            | (refine aGet_in rfl ?_; conv => whnf)
            | (refine And.intro (by omega) ?_; conv => whnf)
            | (refine load_same ?_; conv => whnf)
            | (refine And.intro (Nat.le_of_ble_eq_true rfl) ?_; conv => whnf)
            | (refine append_same ?_; conv => whnf)
            | (refine part_tn_n (by omega) ?_; conv => whnf)
            | (refine shiftOne_call trivial ?_; conv => whnf)
            | (refine takeN_in ?_; conv => whnf)
            | (refine And.intro (pureL_ints _ _) ?_; conv => whnf)
            | (refine set_force ?_; conv => whnf)
            | (refine And.intro (by kernel_rfl) ?_; conv => whnf)
            | (refine aIf_ff (by assumption) ?_; conv => whnf)
            | refine aIf_not ?_
            | (refine aIf_dec (fun _ => ?_) (fun _ => ?_) <;> conv => whnf))
          all_goals (first | (exfalso; omega) | contradiction | skip)
          all_goals exact retVs hM rfl rfl rfl
      · have he : vs.length = ts.length := by omega
        conv => whnf
        repeat' (first
          | (refine tree_in (id := 7) (.one 0 (.one 1 (.one 2 (.one 3 (.one 4 (.one 5 (.two 6 10 (.one 7 (.one 8 (.one 9 (.one 10 (.one 11 (.one 12 .nil)))))) (.one 6 (.one 7 (.one 8 (.one 9 (.one 11 (.one 12 .nil))))))))))))) (by kernel_rfl) (by kernel_rfl) ?_; conv => whnf)
          | (refine fork_in ?_ ?_ <;> conv => whnf)
          | (refine aGet_in rfl ?_; conv => whnf)
          | (refine And.intro (by omega) ?_; conv => whnf)
          | (refine load_same ?_; conv => whnf)
          | (refine append_same ?_; conv => whnf)
          | (refine part_tn_n (by omega) ?_; conv => whnf)
          | (refine shiftOne_call trivial ?_; conv => whnf)
          | (refine takeN_in ?_; conv => whnf)
          | (refine set_force ?_; conv => whnf)
          | refine aIf_not ?_
          | (refine aIf_dec (fun _ => ?_) (fun _ => ?_) <;> conv => whnf)
          | (refine aIf_in (fun _ => ?_) (fun _ => ?_) <;> conv => whnf))
        all_goals (first | (exfalso; omega) | skip)
        exact retVs (sgM_t hC (by rw [← he]; exact hva)) rfl rfl rfl
  · have hM := sgM_f hC
    have hC' : ¬ (ts.length ≤ 3 ∧ us.length = ts.length ∧ -9 ≤ n ∧ n ≤ 9) := hC
    conv => whnf
    repeat' (first
      | (refine tree_in (id := 7) (.one 0 (.one 1 (.one 2 (.one 3 (.one 4 (.one 5 (.two 6 10 (.one 7 (.one 8 (.one 9 (.one 10 (.one 11 (.one 12 .nil)))))) (.one 6 (.one 7 (.one 8 (.one 9 (.one 11 (.one 12 .nil))))))))))))) (by kernel_rfl) (by kernel_rfl) ?_; conv => whnf)
      | (refine aIf_t ?_; conv => whnf)
      | (refine aIf_f ?_; conv => whnf)
      | (refine fun (_ : _ ≤ maxLen) => ?_; conv => whnf)
      | (refine And.intro (by omega) ?_; conv => whnf)
      | (refine append_same ?_; conv => whnf)
      | refine aIf_eqf ?_
      | refine aIf_not ?_
      | (refine aIf_dec (fun _ => ?_) (fun _ => ?_) <;> conv => whnf))
    all_goals (first | (exfalso; omega) | contradiction | exact retVs hM rfl rfl rfl)
end Go.Proofs.Ytjmdhfjemaoebaa
