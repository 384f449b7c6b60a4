import Derived.Test.YtjmdhfjemaoebaaGreatM0x32
import Derived.Test.YtjmdhfjemaoebaaGreatM0x31
import Derived.Test.YtjmdhfjemaoebaaGreatM0x33
namespace Go.Proofs.YtjmdhfjemaoebaaGreat
set_option maxRecDepth 20000
open Go.RowKit Go.Am Go.WideShapes Go.ChangeShapes
theorem uNds : Tryz.prog.underlying 23 = some (.slice 90) := by kernel_rfl
theorem cell_nds1 : Tryz.prog.cellsOf 23 = 1 := by kernel_rfl
theorem cell_nd4 : Tryz.prog.cellsOf 90 = 4 := by kernel_rfl
theorem cell_ex2 : Tryz.prog.cellsOf 25 = 2 := by kernel_rfl
theorem nodeFs : fieldsAre Tryz.prog 90 [(3, 0), (3, 1), (3, 2), (38, 3)] = true := by kernel_rfl
theorem exprFs : fieldsAre Tryz.prog 25 [(22, 0), (23, 1)] = true := by kernel_rfl
theorem structEx : ∃ fs, Tryz.prog.underlying 25 = some (.struct fs) := by
  have h := exprFs
  unfold fieldsAre at h
  split at h
  · exact ⟨_, by assumption⟩
  · cases h
theorem getD_wf {zs : List Int} (h : ∀ z ∈ zs, (Lit.int .i64 z).wf = true) : wfL zs := fun j => by
  by_cases hj : j < zs.length
  · simp only [List.getD, List.getElem?_eq_getElem hj, Option.getD_some]; exact h _ (List.getElem_mem hj)
  · simp only [List.getD, List.getElem?_eq_none (show zs.length ≤ j by omega)]; rfl
theorem cells_nd (us : List AV) (h : CellsOk Tryz.prog 90 us) : ∃ n : Nd, us = ndC 1 n ∧ wfL n.l := by
  obtain ⟨hl, hf⟩ := fields_ok nodeFs h
  rw [cell_nd4] at hl
  match us, hl with
  | [a, b, c, d], _ =>
    have h0 := hf (3, 0) (by simp)
    have h1 := hf (3, 1) (by simp)
    have h2 := hf (3, 2) (by simp)
    have h3 := hf (38, 3) (by simp)
    simp only [cell_int1, cell_ints1] at h0 h1 h2 h3
    obtain ⟨n0, e0, -⟩ := cells_int uInt h0
    obtain ⟨n1, e1, -⟩ := cells_int uInt h1
    obtain ⟨n2, e2, -⟩ := cells_int uInt h2
    obtain ⟨zs, e3, hw⟩ := cellsInts uInts uInt h3
    simp at e0 e1 e2 e3
    exact ⟨⟨n0, n1, n2, zs⟩, by rw [e0, e1, e2, e3]; rfl, getD_wf hw⟩
theorem argE {av : AV} (h : ArgR Tryz.prog 25 av) : ∃ (xss : List (List Int)) (ns : List Nd), av = .agg [.sl 1 xss.length (xss.map (slI 1)), .sl 1 ns.length (ns.flatMap (ndC 1))] ∧ ∀ n ∈ ns, wfL n.l := by
  obtain ⟨fs, hu⟩ := structEx
  unfold ArgR at h
  rw [hu] at h
  obtain ⟨us, rfl, h⟩ := h
  obtain ⟨hl, hf⟩ := fields_ok exprFs h
  rw [cell_ex2] at hl
  match us, hl with
  | [a, b], _ =>
    have h0 := hf (22, 0) (by simp)
    have h1 := hf (23, 1) (by simp)
    simp only [cell_iis1, cell_nds1] at h0 h1
    obtain ⟨xss, e0, -⟩ := cells_slice (f := fun xs => [slI 1 xs]) (q := fun _ => True) uIIs h0 fun us hus => by
      obtain ⟨zs, e, -⟩ := cellsInts uInts uInt hus
      exact ⟨zs, e, trivial⟩
    obtain ⟨ns, e1, hw⟩ := cells_slice uNds h1 cells_nd
    have em := flat_one (slI 1) xss
    simp at e0 e1
    exact ⟨xss, ns, by rw [e0, e1, em], hw⟩
theorem eP_of {xss : List (List Int)} {ns : List Nd} (hs : eSize xss ns ≤ 1048576) (hw : ∀ n ∈ ns, wfL n.l) : eP ns := fun j hj => by
  have h1 := len_le_ntot hj
  unfold eSize at hs
  refine ⟨by omega, ?_⟩
  have : ns.getD j default ∈ ns := by simp only [List.getD, List.getElem?_eq_getElem hj, Option.getD_some]; exact List.getElem_mem hj
  exact hw _ this
end Go.Proofs.YtjmdhfjemaoebaaGreat
namespace Go.Proofs.YtjmdhfjemaoebaaGreat
set_option maxRecDepth 20000
open Go.RowKit Go.Am
set_option linter.unusedSimpArgs false
theorem shTo_form {ins : List (List Int)} {ns : List Nd} {j : Nat} (hf : ¬ formP (ns.getD j default) j ins.length) : shTo ins ns (j + 1) = none := by
  rw [shTo]
  cases shTo ins ns j with
  | none => rfl
  | some s => exact if_neg fun h => hf h.1
theorem shM_form {ins : List (List Int)} {ns : List Nd} (h : (shM ins ns).2 = true) : (1 ≤ ns.length ∧ ns.length ≤ 12) ∧ ∀ j, j < ns.length → formP (ns.getD j default) j ins.length := by
  by_cases hI : insOk ins ∧ 1 ≤ ns.length ∧ ns.length ≤ 12
  · refine ⟨hI.2, fun j hj => ?_⟩
    by_cases hf : formP (ns.getD j default) j ins.length
    · exact hf
    · rw [shM_n (shTo_none (shTo_form hf) _ (by omega))] at h; cases h
  · rw [shM_f hI] at h; cases h
def incAt (us : List Int) (i : Int) : List Int := us.set i.toNat (IntKind.i64.wrap (us.getD i.toNat 0 + 1))
def usN (us : List Int) (x : Nd) : List Int := if pcN x.op = 0 then us else if pcN x.op = 1 then incAt us x.a else incAt (incAt us x.a) x.b
theorem incAt_length (us : List Int) (i : Int) : (incAt us i).length = us.length := by simp [incAt]
theorem usN_length (us : List Int) (x : Nd) : (usN us x).length = us.length := by
  unfold usN; split
  · rfl
  · split <;> simp [incAt_length]
def usTo (ns : List Nd) : Nat → List Int
  | 0 => List.replicate ns.length 0
  | k + 1 => usN (usTo ns k) (ns.getD k default)
theorem usTo_length (ns : List Nd) : ∀ k, (usTo ns k).length = ns.length
  | 0 => by simp [usTo]
  | k + 1 => by rw [usTo, usN_length, usTo_length ns k]
def usL (xss : List (List Int)) (ns : List Nd) : List Int := if (shM xss ns).2 = true then usTo ns ns.length else []
theorem retLM {env : List AV} {rows : List Row} {ctr τ ver : Nat} {t : TypeId} {zs zs' : List Int} {r : Row} {n : Nat} (hz : zs' = zs) (hr : rows[τ]? = some r) (hv : r.ver = ver) (e : r = ⟨ver, t, 1, zs.map (.int .i64)⟩) (hn : n = zs.length) :
    RetB ⟨env, rows, ctr, 0⟩ [] (fun r ic news => r = .ref 0 0 0 zs'.length ∧ ic = [] ∧ news = [⟨0, t, 1, zs'.map (.int .i64)⟩]) (.ref τ ver 0 n) := by
  subst hz; exact retL hr hv e hn
attribute [local irreducible] aPlan aGet aIf aLoop aCall RetB NextB CallB CallG aCut aSet aAppend
def sUses : CSpec := fnL (ι := Nat × List (List Int) × List Nd) 3 (fun | (c, xss, ns) => [.agg [.sl c xss.length (xss.map (slI c)), .sl c ns.length (ns.flatMap (ndC c))]]) (fun | (_, _, ns) => eP ns) (fun | (_, xss, ns) => usL xss ns)
end Go.Proofs.YtjmdhfjemaoebaaGreat
namespace Go.Proofs.YtjmdhfjemaoebaaGreat
set_option maxRecDepth 20000
open Go.RowKit Go.Am
set_option linter.unusedSimpArgs false
attribute [local irreducible] aPlan aGet aIf aLoop aCall RetB NextB CallB CallG aCut aSet aAppend
def usP (us : List Int) (x : Nd) : Nat → List Int
  | 0 => us
  | j + 1 => incAt (usP us x j) (([x.a, x.b] : List Int).getD j 0)
theorem usP_length (us : List Int) (x : Nd) : ∀ j, (usP us x j).length = us.length
  | 0 => rfl
  | j + 1 => by rw [usP, incAt_length, usP_length us x j]
theorem usP_all {us : List Int} {x : Nd} {j : Nat} (h : (j : Int) = pcN x.op) : usN us x = usP us x j := by
  rcases pcN_cases x.op with ⟨h1, -⟩ | ⟨h1, -⟩ | ⟨h1, -⟩
  · have : j = 0 := by omega
    subst this; unfold usN; rw [if_pos h1]; rfl
  · have : j = 1 := by omega
    subst this; unfold usN; rw [if_neg (by omega), if_pos h1]; rfl
  · have : j = 2 := by omega
    subst this; unfold usN; rw [if_neg (by omega), if_neg (by omega)]; rfl
theorem parts_in {x : Nd} {k n : Nat} {m : Int} (hf : formP x k m) (hk : k < n) : ∀ j : Nat, (j : Int) < pcN x.op → 0 ≤ ([x.a, x.b] : List Int).getD j 0 ∧ ([x.a, x.b] : List Int).getD j 0 < n := by
  obtain ⟨f1, f2, f3, f4, f5, f6, f7⟩ := hf
  intro j hj
  rcases pcN_cases x.op with ⟨h1, h2⟩ | ⟨h1, h2⟩ | ⟨h1, h2, h3⟩
  · omega
  · have : j = 0 := by omega
    subst this
    show 0 ≤ x.a ∧ x.a < n
    omega
  · have : j = 0 ∨ j = 1 := by omega
    rcases this with rfl | rfl
    · show 0 ≤ x.a ∧ x.a < n
      omega
    · show 0 ≤ x.b ∧ x.b < n
      omega
theorem pcN_le2 (op : Int) : pcN op ≤ 2 ∧ 0 ≤ pcN op := by rcases pcN_cases op with h | h | h <;> omega
set_option maxHeartbeats 4000000 in
theorem iUsesOf_sound : Sound Tryz.prog 87 sUses := by
  refine sound_of Tryz.func87 rfl (enters_of Tryz.func87 (by kernel_rfl) (by kernel_rfl)) ?_
  rintro ⟨c, xss, ns⟩ hpre
  have hE : eP ns := hpre
  have hmax : maxLen = 9223372036854775807 := rfl
  cases hM : (shM xss ns).2 with
  | false =>
    conv => whnf
    repeat' (first
      | ((first | refine load_same ?_ | refine And.intro rfl (And.intro (List.cons_ne_nil _ _) ?_) | refine And.intro (Nat.le_of_ble_eq_true rfl) ?_ | refine callG_t ?_ | refine append_same ?_ | refine And.intro (pureL_ii _ _) ?_ | refine And.intro (pureL_nd _ _) ?_); conv => whnf) | (refine iExprOk_call (by first | omega | assumption | (refine ⟨?_, ?_⟩ <;> first | assumption | omega) | (refine ⟨?_, ?_, ?_⟩ <;> first | assumption | omega)) ?_; conv => whnf) | ((first | refine takeN_in ?_ | refine And.intro (by kernel_rfl) ?_ | refine aIf_ff (by assumption) ?_); conv => whnf) | refine aIf_not ?_)
    exact retLM (if_neg (by rw [hM]; decide)) rfl rfl rfl rfl
  | true =>
    obtain ⟨⟨h1, h12⟩, hform⟩ := shM_form hM
    conv => whnf
    repeat' (first
      | ((first | refine fun (_ : _ ≤ maxLen) => ?_ | refine aGet_in rfl ?_ | refine And.intro (And.intro (Int.le_refl _) (And.intro (by kernel_rfl) (And.intro rfl (by kernel_rfl)))) (And.intro (And.intro (by omega) (And.intro (bytes_le (b := 8) rfl (by omega)) (by omega))) ?_) | refine load_same ?_ | refine And.intro rfl (And.intro (List.cons_ne_nil _ _) ?_) | refine And.intro (Nat.le_of_ble_eq_true rfl) ?_ | refine callG_t ?_ | refine append_same ?_ | refine And.intro (pureL_ii _ _) ?_ | refine And.intro (pureL_nd _ _) ?_); conv => whnf) | (refine iExprOk_call (by first | omega | assumption | (refine ⟨?_, ?_⟩ <;> first | assumption | omega) | (refine ⟨?_, ?_, ?_⟩ <;> first | assumption | omega)) ?_; conv => whnf) | ((first | refine takeN_in ?_ | refine And.intro (by kernel_rfl) ?_ | refine aIf_tt (by assumption) ?_); conv => whnf) | refine aIf_not ?_)
    refine loop_u (ι := Nat) [false, false, false, true, false, false, false, false, false, false, false, false, false, false, false, false, true, true, true, false, false, false, false, false, false, false, false, false, false, false, false, false, false, false, false, false, false, false] (fun k => [(18, .int .i64 k)]) (fun k => [(2, (usTo ns k).map (.int .i64))]) (fun k => k ≤ ns.length) (fun k => ns.length - k) (0) (Nat.zero_le _) ?_ ?_
    · conv => whnf
      repeat' (first
        | exact trivial | exact rfl
        | exact Or.inl (And.intro rfl rfl) | exact le_ints (rep_ints _ _)
        | exact pureL_ii _ _ | exact pureL_nd _ _
        | refine Or.inr ?_ | refine And.intro ?_ ?_
        | exact Nat.le_of_ble_eq_true rfl)
    · rintro k hk
      have hk : k ≤ ns.length := hk
      have hl := usTo_length ns k
      by_cases hlt : k < ns.length
      · have hp := parts_in (hform k hlt) hlt
        have hpc := pcN_le2 (ns.getD k default).op
        have hlen : ([(ns.getD k default).a, (ns.getD k default).b] : List Int).length = 2 := rfl
        conv => whnf
        repeat' (first
          | ((first | refine fun (_ : _ ≤ maxLen) => ?_ | refine And.intro (by omega) ?_ | refine load_same ?_ | refine And.intro (Nat.le_of_ble_eq_true rfl) ?_ | refine callG_t ?_ | refine append_same ?_ | refine part_nd_n (by omega) ?_ | refine partsOf_call ?_ | refine takeN_in ?_ | refine And.intro (pureL_ints _ _) ?_ | refine set_force ?_ | refine And.intro (by kernel_rfl) ?_); conv => whnf) | (refine aIf_dec (fun _ => ?_) (fun _ => ?_) <;> conv => whnf))
        all_goals (first | (exfalso; omega) | skip)
        refine loop_u (ι := Nat) [false, false, false, true, false, false, false, false, false, false, false, false, false, false, false, false, true, true, true, false, false, false, false, true, true, true, false, false, false, false, false, false, false, false, false, false, false, false] (fun j => [(25, .int .i64 j)]) (fun j => [(2, (usP (usTo ns k) (ns.getD k default) j).map (.int .i64))]) (fun j => (j : Int) ≤ pcN (ns.getD k default).op) (fun j => 2 - j) (0) (by omega) ?_ ?_
        · conv => whnf
          repeat' (first
            | exact trivial | exact rfl
            | exact pureL_ints _ _ | exact Or.inl (And.intro rfl rfl)
            | exact le_ints rfl | exact pureL_ii _ _
            | exact pureL_nd _ _ | refine Or.inr ?_
            | refine And.intro ?_ ?_ | exact Nat.le_of_ble_eq_true rfl)
        · rintro j hj
          have hj : (j : Int) ≤ pcN (ns.getD k default).op := hj
          have hul := usP_length (usTo ns k) (ns.getD k default) j
          by_cases hjl : (j : Int) < pcN (ns.getD k default).op
          · have hpj := hp j hjl
            conv => whnf
            repeat' (first
              | ((first | refine get_nat0 (by omega) ?_ | refine get_int0 (by omega) ?_ | refine And.intro (by omega) ?_ | refine append_same ?_ | refine And.intro rfl (And.intro rfl (And.intro (by first | omega | (rw [List.length_map]; omega)) ?_)) | refine set_int ?_ (by omega)); conv => whnf) | (refine aIf_dec (fun _ => ?_) (fun _ => ?_) <;> conv => whnf))
            all_goals (first | (exfalso; omega) | skip)
            refine next_u (j + 1) (show 2 - (j + 1) < 2 - j by omega) (by show ((j + 1 : Nat) : Int) ≤ _; omega) ?_
            conv => whnf
            repeat' (first
              | exact trivial | exact rfl
              | exact pureL_ints _ _ | exact Or.inl (And.intro rfl rfl)
              | exact le_ints rfl | exact pureL_ii _ _
              | exact pureL_nd _ _ | refine Or.inr ?_
              | refine And.intro ?_ ?_ | exact Nat.le_of_ble_eq_true rfl
              | exact int_eq (by rw [IntWalk.i64_in _ (by omega)] <;> omega))
          · have hn : usTo ns (k + 1) = usP (usTo ns k) (ns.getD k default) j := usP_all (by omega)
            conv => whnf
            repeat' (first
              | ((first | refine get_nat0 (by omega) ?_ | refine And.intro (by omega) ?_ | refine append_same ?_ | refine set_nat ?_ (by omega)); conv => whnf) | (refine aIf_dec (fun _ => ?_) (fun _ => ?_) <;> conv => whnf))
            all_goals (first | (exfalso; omega) | skip)
            refine next_u (k + 1) (show ns.length - (k + 1) < ns.length - k by omega) (by exact (by omega : k + 1 ≤ ns.length)) ?_
            conv => whnf
            repeat' (first
              | exact trivial | exact rfl
              | exact Or.inl (And.intro rfl rfl) | exact pureL_ii _ _
              | exact pureL_nd _ _ | refine le_ints ?_
              | refine Or.inr ?_ | refine And.intro ?_ ?_
              | exact Nat.le_of_ble_eq_true rfl | exact int_eq (by rw [IntWalk.i64_in _ (by omega)] <;> omega))
            all_goals (first | (rw [hn]; done) | (rw [hn]; rfl) | skip)
      · conv => whnf
        repeat' (first
          | ((first | refine fun (_ : _ ≤ maxLen) => ?_ | refine And.intro (by omega) ?_ | refine load_same ?_ | refine callG_t ?_ | refine append_same ?_ | refine part_nd_n (by omega) ?_ | refine partsOf_call ?_ | refine takeN_in ?_ | refine set_force ?_); conv => whnf) | (refine aIf_dec (fun _ => ?_) (fun _ => ?_) <;> conv => whnf))
        all_goals (first | (exfalso; omega) | contradiction | skip)
        have he : k = ns.length := by omega
        subst he
        exact retLM (if_pos hM) rfl rfl rfl (by rw [hl]; rfl)
theorem iUsesOf_call {c : Nat} {xss : List (List Int)} {ns : List Nd} {env : List AV} {rows : List Row} {ctr low : Nat} {k : AV → St → Prop} (hpre : eP ns) (h : k (.ref rows.length ctr 0 (usL xss ns).length) ⟨env, rows ++ [⟨ctr, 3, 1, (usL xss ns).map (.int .i64)⟩], ctr + 1, low⟩) :
    CallB Tryz.prog 87 ⟨env, rows, ctr, low⟩ [.agg [.sl c xss.length (xss.map (slI c)), .sl c ns.length (ns.flatMap (ndC c))]] k := callL_in iUsesOf_sound (c, xss, ns) hpre h
end Go.Proofs.YtjmdhfjemaoebaaGreat
namespace Go.Proofs.YtjmdhfjemaoebaaGreat
set_option maxRecDepth 20000
open Go.RowKit Go.Am
set_option linter.unusedSimpArgs false
attribute [local irreducible] aPlan aGet aIf aLoop aCall RetB NextB CallB CallG aCut aSet aAppend
def neStep (bs : List Bool) (x : Nd) : Nat → List Bool
  | 0 => bs
  | j + 1 => (neStep bs x j).set (([x.a, x.b] : List Int).getD j 0).toNat true
theorem neStep_length (bs : List Bool) (x : Nd) : ∀ j, (neStep bs x j).length = bs.length
  | 0 => rfl
  | j + 1 => by rw [neStep, List.length_set, neStep_length bs x j]
def neAt (ns : List Nd) : Nat → List Bool
  | 0 => (List.replicate ns.length false).set (ns.length - 1) true
  | m + 1 => if (neAt ns m).getD (ns.length - 1 - m) false = true then neStep (neAt ns m) (ns.getD (ns.length - 1 - m) default) (pcN (ns.getD (ns.length - 1 - m) default).op).toNat else neAt ns m
theorem neAt_length (ns : List Nd) : ∀ m, (neAt ns m).length = ns.length
  | 0 => by simp [neAt]
  | m + 1 => by
    unfold neAt; split
    · rw [neStep_length, neAt_length ns m]
    · exact neAt_length ns m
def neI (ns : List Nd) (i : Int) : List Bool := neAt ns ((ns.length : Int) - 1 - i).toNat
theorem neI_length (ns : List Nd) (i : Int) : (neI ns i).length = ns.length := neAt_length _ _
theorem neI_next {ns : List Nd} {i : Int} (h0 : 0 ≤ i) (h1 : i < ns.length) : neI ns (i - 1) = if (neI ns i).getD i.toNat false = true then neStep (neI ns i) (ns.getD i.toNat default) (pcN (ns.getD i.toNat default).op).toNat else neI ns i := by
  unfold neI
  have e : ((ns.length : Int) - 1 - (i - 1)).toNat = ((ns.length : Int) - 1 - i).toNat + 1 := by omega
  have e' : ns.length - 1 - ((ns.length : Int) - 1 - i).toNat = i.toNat := by omega
  rw [e, neAt, e']
theorem neI_t {ns : List Nd} {i : Int} (h0 : 0 ≤ i) (h1 : i < ns.length) (hb : (neI ns i).getD i.toNat false = true) : neI ns (i - 1) = neStep (neI ns i) (ns.getD i.toNat default) (pcN (ns.getD i.toNat default).op).toNat := by
  rw [neI_next h0 h1, if_pos hb]
theorem neI_f {ns : List Nd} {i : Int} (h0 : 0 ≤ i) (h1 : i < ns.length) (hb : (neI ns i).getD i.toNat false = false) : neI ns (i - 1) = neI ns i := by
  rw [neI_next h0 h1, if_neg (by rw [hb]; decide)]
def neL (xss : List (List Int)) (ns : List Nd) : List Bool := if (shM xss ns).2 = true then neI ns (-1) else []
theorem retBM {env : List AV} {rows : List Row} {ctr τ ver m : Nat} {t : TypeId} {zs zs' : List Bool} (hz : zs' = zs) (hr : rows[τ]? = some ⟨ver, t, 1, zs.map .bool⟩) (hm : m = zs.length) :
    RetB ⟨env, rows, ctr, 0⟩ [] (fun r ic news => ic = [] ∧ r = .ref 0 0 0 zs'.length ∧ news = [⟨0, t, 1, zs'.map .bool⟩]) (.ref τ ver 0 m) := by
  subst hz; subst hm
  exact retR hr (protL_bools _) rfl rfl
theorem set_repb {n : Nat} {cs : List AV} {i : Int} {b : Bool} {K : List AV → Prop} (hc : cs = [AV.bool false]) (h : 0 ≤ i ∧ i < n) (hK : K (((List.replicate n false).set i.toNat b).map .bool)) : aSet (rep n cs) (0 + i.toNat * 1) [.bool b] K := by
  subst hc; rw [rep_bools]; exact set_bool hK (by simp; omega)
theorem repb_fit {n : Nat} {cs : List AV} {i : Int} (hc : cs = [AV.bool false]) (h : 0 ≤ i ∧ i < n) : 0 + i.toNat * 1 + 1 ≤ (rep n cs).length := by
  subst hc; rw [rep_bools]; simp; omega
theorem neI_0 {ns : List Nd} {w : Int} (h : 1 ≤ ns.length) (hw : w = ns.length - 1) : (((List.replicate ((ns.length : Int).toNat) false).set w.toNat true).map AV.bool) = (neI ns ((ns.length : Int) - 1)).map .bool := by
  subst hw
  have e : ((ns.length : Int) - 1 - ((ns.length : Int) - 1)).toNat = 0 := by omega
  have e' : ((ns.length : Int) - 1).toNat = ns.length - 1 := by omega
  unfold neI
  rw [e, neAt, e', Int.toNat_natCast]
def sNeeded : CSpec := fnR (ι := Nat × List (List Int) × List Nd) 4 1 (fun | (c, xss, ns) => [.agg [.sl c xss.length (xss.map (slI c)), .sl c ns.length (ns.flatMap (ndC c))]]) (fun | (_, _, ns) => eP ns) (fun | (_, xss, ns) => (neL xss ns).length) (fun | (_, xss, ns) => (neL xss ns).map .bool)
end Go.Proofs.YtjmdhfjemaoebaaGreat
namespace Go.Proofs.YtjmdhfjemaoebaaGreat
set_option maxRecDepth 20000
open Go.RowKit Go.Am
set_option linter.unusedSimpArgs false
attribute [local irreducible] aPlan aGet aIf aLoop aCall RetB NextB CallB CallG aCut aSet aAppend
set_option maxHeartbeats 4000000 in
theorem sNeededOf_sound : Sound Tryz.prog 122 sNeeded := by
  refine sound_of Tryz.func122 rfl (enters_of Tryz.func122 (by kernel_rfl) (by kernel_rfl)) ?_
  rintro ⟨c, xss, ns⟩ hpre
  have hE : eP ns := hpre
  have hmax : maxLen = 9223372036854775807 := rfl
  cases hM : (shM xss ns).2 with
  | false =>
    conv => whnf
    repeat' (first
      | ((first | refine load_same ?_ | refine And.intro rfl (And.intro (List.cons_ne_nil _ _) ?_) | refine And.intro (Nat.le_of_ble_eq_true rfl) ?_ | refine callG_t ?_ | refine append_same ?_ | refine And.intro (pureL_ii _ _) ?_ | refine And.intro (pureL_nd _ _) ?_); conv => whnf) | (refine sExprOk_call (by first | omega | assumption | (refine ⟨?_, ?_⟩ <;> first | assumption | omega) | (refine ⟨?_, ?_, ?_⟩ <;> first | assumption | omega)) ?_; conv => whnf) | ((first | refine takeN_in ?_ | refine And.intro (by kernel_rfl) ?_ | refine aIf_ff (by assumption) ?_); conv => whnf) | refine aIf_not ?_)
    exact retBM (if_neg (by rw [hM]; decide)) rfl rfl
  | true =>
    obtain ⟨⟨h1, h12⟩, hform⟩ := shM_form hM
    have hw : IntKind.i64.wrap ((ns.length : Int) - 1) = ns.length - 1 := IntWalk.i64_in _ (by omega)
    have hw2 : IntKind.i64.wrap ((((ns.length : Int).toNat : Nat) : Int) - 1) = ns.length - 1 := by rw [IntWalk.i64_in _ (by omega)]; omega
    have hi0 := neI_0 (w := IntKind.i64.wrap ((((ns.length : Int).toNat : Nat) : Int) - 1)) h1 hw2
    conv => whnf
    repeat' (first
      | ((first | refine fun (_ : _ ≤ maxLen) => ?_ | refine aGet_in rfl ?_ | refine And.intro (by omega) ?_ | refine load_same ?_ | refine And.intro rfl (And.intro (List.cons_ne_nil _ _) ?_) | refine And.intro (Nat.le_of_ble_eq_true rfl) ?_ | refine callG_t ?_ | refine append_same ?_ | refine And.intro (pureL_ii _ _) ?_ | refine And.intro (pureL_nd _ _) ?_ | refine And.intro (repb_fit rfl (by omega)) ?_ | refine set_repb rfl (by omega) ?_); conv => whnf) | (refine sExprOk_call (by first | omega | assumption | (refine ⟨?_, ?_⟩ <;> first | assumption | omega) | (refine ⟨?_, ?_, ?_⟩ <;> first | assumption | omega)) ?_; conv => whnf) | ((first | refine takeN_in ?_ | refine And.intro (And.intro (Int.le_refl _) (And.intro (by kernel_rfl) (And.intro rfl (by kernel_rfl)))) (And.intro (And.intro (by omega) (And.intro (bytes_le (b := 1) rfl (by omega)) (by omega))) ?_) | refine And.intro (by kernel_rfl) ?_ | refine aIf_tt (by assumption) ?_); conv => whnf) | refine aIf_not ?_)
    refine loop_u (ι := Int) [false, true, false, true, true, false, false, false, false, false, false, false, false, false, false, false, false, false, false, false, false, false, false, false, false, false, false, false, false, false, false, false, false, false, false, false, false, false, false, false, false, false, false, false, false, false, false, false, false, false, false, false, false, false, false, false, false, false, false, false, false, false, false] (fun i => [(4, .int .i64 i)]) (fun i => [(2, (neI ns i).map .bool)]) (fun i => -1 ≤ i ∧ i < ns.length) (fun i => (i + 1).toNat) (((ns.length : Int) - 1)) ⟨by omega, by omega⟩ ?_ ?_
    · conv => whnf
      repeat' (first | exact le_bools hi0 | exact int_eq hw | exact int_eq (hw2 : _ = _) | refine And.intro ?_ ?_)
      repeat' (first
        | exact trivial | exact rfl
        | exact Or.inl (And.intro rfl rfl) | exact pureL_ii _ _
        | exact pureL_nd _ _ | refine Or.inr ?_
        | refine And.intro ?_ ?_ | exact Nat.le_of_ble_eq_true rfl)
    · rintro i ⟨hi1, hi2⟩
      have hi1 : -1 ≤ i := hi1
      have hi2 : i < ns.length := hi2
      have hl := neI_length ns i
      by_cases hge : 0 ≤ i
      · obtain ⟨f1, f2, f3, f4, f5, f6, f7⟩ := hform i.toNat (by omega)
        cases hb : (neI ns i).getD i.toNat false with
        | false =>
          have hn := neI_f hge hi2 hb
          have hb1 : (neI ns i).getD (i.toNat * 1) false = false := by rw [Nat.mul_one]; exact hb
          conv => whnf
          repeat' (first
            | ((first | refine aIf_f ?_ | refine aGet_in rfl ?_ | refine And.intro (by omega) ?_ | refine And.intro (Nat.le_of_ble_eq_true rfl) ?_ | refine append_same ?_ | refine part_nd (by omega) ?_ | refine getb_n (by omega) ?_ | refine set_force ?_ | refine And.intro (by kernel_rfl) ?_ | refine aIf_ff (by assumption) ?_); conv => whnf) | refine aIf_eqt ?_
            | (refine aIf_dec (fun _ => ?_) (fun _ => ?_) <;> conv => whnf))
          all_goals (first | (exfalso; omega) | contradiction | skip)
          refine next_u (i - 1) (show (i - 1 + 1).toNat < (i + 1).toNat by omega) ⟨(by omega : -1 ≤ i - 1), (by omega : i - 1 < ns.length)⟩ ?_
          conv => whnf
          repeat' (first
            | exact trivial | exact rfl
            | exact Or.inl (And.intro rfl rfl) | exact pureL_ii _ _
            | exact pureL_nd _ _ | refine le_bools ?_
            | refine Or.inr ?_ | refine And.intro ?_ ?_
            | exact Nat.le_of_ble_eq_true rfl | exact int_eq (by rw [IntWalk.i64_in _ (by omega)] <;> omega))
          all_goals (first | (rw [hn]; done) | (rw [hn]; rfl) | skip)
        | true =>
          have hn0 := neI_t hge hi2 hb
          have hb1 : (neI ns i).getD (i.toNat * 1) false = true := by rw [Nat.mul_one]; exact hb
          by_cases o1 : (ns.getD i.toNat default).op = 0 ∨ (ns.getD i.toNat default).op = 1
          · have t2 : ¬ twoP3 (ns.getD i.toNat default).op := by unfold twoP3; omega
            have t1 : ¬ (6 ≤ (ns.getD i.toNat default).op ∧ (ns.getD i.toNat default).op ≤ 10) := by omega
            have hn : neI ns (i - 1) = neI ns i := by rw [hn0, pcN_0 o1]; rfl
            conv => whnf
            repeat' (first
              | ((first | refine aIf_t ?_ | refine aIf_f ?_ | refine aGet_in rfl ?_ | refine And.intro (by omega) ?_ | refine And.intro (Nat.le_of_ble_eq_true rfl) ?_ | refine callG_t ?_ | refine append_same ?_ | refine part_nd (by omega) ?_ | refine getb_n (by omega) ?_ | refine setb_n ?_ (by omega) | refine l3Two_call trivial ?_ | refine l3One_call trivial ?_ | refine And.intro rfl (And.intro rfl (And.intro (by first | omega | (rw [List.length_map]; omega)) ?_)) | refine set_bool ?_ (by omega) | refine set_force ?_ | refine And.intro (by kernel_rfl) ?_ | refine aIf_tt (by assumption) ?_); conv => whnf) | refine aIf_eqt ?_
              | refine aIf_eqf ?_ | (refine aIf_dec (fun _ => ?_) (fun _ => ?_) <;> conv => whnf)
              | (refine aIf_in (fun _ => ?_) (fun _ => ?_) <;> conv => whnf))
            all_goals (first | (exfalso; omega) | contradiction | skip)
            refine next_u (i - 1) (show (i - 1 + 1).toNat < (i + 1).toNat by omega) ⟨(by omega : -1 ≤ i - 1), (by omega : i - 1 < ns.length)⟩ ?_
            conv => whnf
            repeat' (first
              | exact trivial | exact rfl
              | exact Or.inl (And.intro rfl rfl) | exact pureL_ii _ _
              | exact pureL_nd _ _ | refine le_bools ?_
              | refine Or.inr ?_ | refine And.intro ?_ ?_
              | exact Nat.le_of_ble_eq_true rfl | exact int_eq (by rw [IntWalk.i64_in _ (by omega)] <;> omega))
            all_goals (first | (rw [hn]; done) | (rw [hn]; rfl) | skip)
          · have hl' : ((neI ns i).set (ns.getD i.toNat default).a.toNat true).length = ns.length := by rw [List.length_set]; exact hl
            have hb2 : ((neI ns i).set (ns.getD i.toNat default).a.toNat true).getD (i.toNat * 1) false = true := by
              rw [Nat.mul_one, getD_setG (by omega)]; split
              · rfl
              · exact hb
            have hb' : ((neI ns i).set (ns.getD i.toNat default).a.toNat true).getD i.toNat false = true := by
              rw [getD_setG (by omega)]; split
              · rfl
              · exact hb
            by_cases o2 : 6 ≤ (ns.getD i.toNat default).op ∧ (ns.getD i.toNat default).op ≤ 10
            · have t2 : ¬ twoP3 (ns.getD i.toNat default).op := by unfold twoP3; omega
              have hn : neI ns (i - 1) = (neI ns i).set (ns.getD i.toNat default).a.toNat true := by rw [hn0, pcN_1 o2]; rfl
              conv => whnf
              repeat' (first
                | ((first | refine aIf_t ?_ | refine aIf_f ?_ | refine aGet_in rfl ?_ | refine And.intro (by omega) ?_ | refine And.intro (Nat.le_of_ble_eq_true rfl) ?_ | refine callG_t ?_ | refine append_same ?_ | refine part_nd (by omega) ?_ | refine getb_n (by omega) ?_ | refine setb_n ?_ (by omega) | refine l3Two_call trivial ?_ | refine l3One_call trivial ?_ | refine And.intro rfl (And.intro rfl (And.intro (by first | omega | (rw [List.length_map]; omega)) ?_)) | refine set_bool ?_ (by omega) | refine set_force ?_ | refine And.intro (by kernel_rfl) ?_ | refine aIf_tt (by assumption) ?_); conv => whnf) | refine aIf_eqt ?_
                | refine aIf_eqf ?_ | (refine aIf_dec (fun _ => ?_) (fun _ => ?_) <;> conv => whnf))
              all_goals (first | (exfalso; omega) | contradiction | skip)
              refine next_u (i - 1) (show (i - 1 + 1).toNat < (i + 1).toNat by omega) ⟨(by omega : -1 ≤ i - 1), (by omega : i - 1 < ns.length)⟩ ?_
              conv => whnf
              repeat' (first
                | exact trivial | exact rfl
                | exact Or.inl (And.intro rfl rfl) | exact pureL_ii _ _
                | exact pureL_nd _ _ | refine le_bools ?_
                | refine Or.inr ?_ | refine And.intro ?_ ?_
                | exact Nat.le_of_ble_eq_true rfl | exact int_eq (by rw [IntWalk.i64_in _ (by omega)] <;> omega))
              all_goals (first | (rw [hn]; done) | (rw [hn]; rfl) | skip)
            · have t2 : twoP3 (ns.getD i.toNat default).op := by unfold twoP3; omega
              have hn : neI ns (i - 1) = ((neI ns i).set (ns.getD i.toNat default).a.toNat true).set (ns.getD i.toNat default).b.toNat true := by rw [hn0, pcN_2 o1 o2]; rfl
              conv => whnf
              repeat' (first
                | ((first | refine aIf_t ?_ | refine aIf_f ?_ | refine aGet_in rfl ?_ | refine And.intro (by omega) ?_ | refine And.intro (Nat.le_of_ble_eq_true rfl) ?_ | refine callG_t ?_ | refine append_same ?_ | refine part_nd (by omega) ?_ | refine getb_n (by omega) ?_ | refine setb_n ?_ (by omega) | refine l3Two_call trivial ?_ | refine l3One_call trivial ?_ | refine And.intro rfl (And.intro rfl (And.intro (by first | omega | (rw [List.length_map]; omega)) ?_)) | refine set_bool ?_ (by omega) | refine set_force ?_ | refine And.intro (by kernel_rfl) ?_ | refine aIf_tt (by assumption) ?_); conv => whnf) | refine aIf_eqt ?_
                | refine aIf_eqf ?_ | (refine aIf_dec (fun _ => ?_) (fun _ => ?_) <;> conv => whnf))
              all_goals (first | (exfalso; omega) | contradiction | skip)
              refine next_u (i - 1) (show (i - 1 + 1).toNat < (i + 1).toNat by omega) ⟨(by omega : -1 ≤ i - 1), (by omega : i - 1 < ns.length)⟩ ?_
              conv => whnf
              repeat' (first
                | exact trivial | exact rfl
                | exact Or.inl (And.intro rfl rfl) | exact pureL_ii _ _
                | exact pureL_nd _ _ | refine le_bools ?_
                | refine Or.inr ?_ | refine And.intro ?_ ?_
                | exact Nat.le_of_ble_eq_true rfl | exact int_eq (by rw [IntWalk.i64_in _ (by omega)] <;> omega))
              all_goals (first | (rw [hn]; done) | (rw [hn]; rfl) | skip)
      · have he : i = -1 := by omega
        subst he
        conv => whnf
        repeat' (first
          | ((first | refine aIf_f ?_ | refine append_same ?_); conv => whnf))
        all_goals (first | (exfalso; omega) | contradiction | skip)
        exact retBM (if_pos hM) rfl (by rw [hl]; rfl)
theorem sNeededOf_call {c : Nat} {xss : List (List Int)} {ns : List Nd} {env : List AV} {rows : List Row} {ctr low : Nat} {k : AV → St → Prop} (hpre : eP ns)
    (h : k (.ref rows.length ctr 0 (neL xss ns).length) ⟨env, rows ++ [⟨ctr, 4, 1, (neL xss ns).map .bool⟩], ctr + 1, low⟩) :
    CallB Tryz.prog 122 ⟨env, rows, ctr, low⟩ [.agg [.sl c xss.length (xss.map (slI c)), .sl c ns.length (ns.flatMap (ndC c))]] k := callR_in sNeededOf_sound (c, xss, ns) hpre (protL_bools _) h
end Go.Proofs.YtjmdhfjemaoebaaGreat
