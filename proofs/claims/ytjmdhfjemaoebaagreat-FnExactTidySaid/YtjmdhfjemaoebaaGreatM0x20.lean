import Derived.Test.YtjmdhfjemaoebaaGreatM0x16
import Derived.Test.YtjmdhfjemaoebaaGreatM0x18
import Derived.Test.YtjmdhfjemaoebaaGreatM0x19
namespace Go.Proofs.YtjmdhfjemaoebaaGreat
set_option maxRecDepth 20000
open Go.RowKit Go.Am
theorem append_sl {env : List AV} {rows : List Row} {ctr low τ ver n c m : Nat} {zs ws : List Int} {cells : List AV} {k : AV → St → Prop} (hr : rows[τ]? = some ⟨ver, 3, 1, zs.map (.int .i64)⟩) (hc : cells = ws.map (.int .i64)) (hm : m = ws.length) (hn : n = zs.length) (hle : n + m ≤ 4000000) (hlow : low ≤ τ)
    (h0 : ws = [] → k (.ref τ ver 0 n) ⟨env, rows, ctr, low⟩)
    (hk : ws ≠ [] → k (.ref τ ctr 0 (n + m)) ⟨env, rows.set τ ⟨ctr, 3, 1, (zs ++ ws).map (.int .i64)⟩, ctr + 1, low⟩) : aAppend Tryz.prog ⟨env, rows, ctr, low⟩ 38 (.ref τ ver 0 n) (.sl c m cells) k := by
  have hb : (bsz Tryz.prog 3) = some 8 := by kernel_rfl
  have hz : zeroCellsA Tryz.prog 3 = some [.int .i64 0] := by kernel_rfl
  have hu : Tryz.prog.underlying 38 = some (.slice 3) := by kernel_rfl
  have hs : ∀ K : Nat → Prop, K 1 → aSz Tryz.prog 3 K := fun K h => by
    have : tsz Tryz.prog 3 = some 1 := by kernel_rfl
    unfold aSz; rw [this]; exact h
  subst hn; subst hm; subst hc
  unfold aAppend
  rw [hu]
  simp only
  rw [hz]
  simp only
  refine hs _ ?_
  unfold aElems aRow
  refine ⟨by simp, ⟨rfl, by rw [hb]; rfl, by rw [hb]; decide⟩, ?_⟩
  simp only [hr]
  rw [if_pos trivial, if_pos (by simp)]
  refine ⟨by simp, fun h => h0 (List.eq_nil_of_length_eq_zero h), fun h0' h => ?_, fun h1 _ => ⟨hlow, by rw [hb]; simp only [Option.getD_some]; omega, ?_⟩⟩
  · exfalso; simp at h; omega
  · have e : (zs.map (AV.int .i64)).take zs.length = zs.map (.int .i64) := List.take_of_length_le (by simp)
    have hne : ws ≠ [] := fun e => by subst e; simp at h1
    simpa [e] using hk hne
attribute [local irreducible] aPlan aGet aIf aLoop aCall RetB NextB CallB CallG aCut aSet aAppend
set_option maxRecDepth 10000 in
theorem copyNums_sound : Sound Tryz.prog 103 (fnL (ι := Nat × List Int) 3 (fun | (c, zs) => [.sl c zs.length (zs.map (.int .i64))]) (fun | (_, zs) => zs.length ≤ 1048576) (fun | (_, zs) => zs)) := by
  refine sound_of Tryz.func103 rfl (enters_of Tryz.func103 (by kernel_rfl) (by kernel_rfl)) ?_
  rintro ⟨c, zs⟩ hpre
  have hpre : zs.length ≤ 1048576 := hpre
  conv => whnf
  repeat' (first
    | ((first | refine append_same ?_ | refine And.intro (And.intro (by kernel_rfl) (And.intro rfl (Nat.le_of_ble_eq_true rfl))) ?_); conv => whnf))
  refine append_sl (zs := []) (ws := zs) rfl rfl rfl rfl (by omega) (Nat.zero_le _) (fun e => ?_) (fun _ => ?_)
  · subst e
    conv => whnf
    repeat' (first
      | (refine append_same ?_; conv => whnf))
    exact retL rfl rfl rfl rfl
  · conv => whnf
    repeat' (first
      | (refine append_same ?_; conv => whnf))
    exact retL rfl rfl rfl (by simp)
theorem copyNums_call {c : Nat} {zs : List Int} {env : List AV} {rows : List Row} {ctr low : Nat} {k : AV → St → Prop} (hpre : zs.length ≤ 1048576) (h : k (.ref rows.length ctr 0 zs.length) ⟨env, rows ++ [⟨ctr, 3, 1, zs.map (.int .i64)⟩], ctr + 1, low⟩) :
    CallB Tryz.prog 103 ⟨env, rows, ctr, low⟩ [.sl c zs.length (zs.map (.int .i64))] k := callL_in copyNums_sound (c, zs) hpre h
set_option maxRecDepth 10000 in
theorem l2Nums_sound : Sound Tryz.prog 56 (fnL (ι := Nat × List Int) 3 (fun | (c, zs) => [.sl c zs.length (zs.map (.int .i64))]) (fun | (_, zs) => zs.length ≤ 1048576) (fun | (_, zs) => zs)) := by
  refine sound_of Tryz.func56 rfl (enters_of Tryz.func56 (by kernel_rfl) (by kernel_rfl)) ?_
  rintro ⟨c, zs⟩ hpre
  have hpre : zs.length ≤ 1048576 := hpre
  conv => whnf
  repeat' (first
    | ((first | refine append_same ?_ | refine And.intro (And.intro (by kernel_rfl) (And.intro rfl (Nat.le_of_ble_eq_true rfl))) ?_); conv => whnf))
  refine append_sl (zs := []) (ws := zs) rfl rfl rfl rfl (by omega) (Nat.zero_le _) (fun e => ?_) (fun _ => ?_)
  · subst e
    conv => whnf
    repeat' (first
      | (refine append_same ?_; conv => whnf))
    exact retL rfl rfl rfl rfl
  · conv => whnf
    repeat' (first
      | (refine append_same ?_; conv => whnf))
    exact retL rfl rfl rfl (by simp)
theorem l2Nums_call {c : Nat} {zs : List Int} {env : List AV} {rows : List Row} {ctr low : Nat} {k : AV → St → Prop} (hpre : zs.length ≤ 1048576) (h : k (.ref rows.length ctr 0 zs.length) ⟨env, rows ++ [⟨ctr, 3, 1, zs.map (.int .i64)⟩], ctr + 1, low⟩) :
    CallB Tryz.prog 56 ⟨env, rows, ctr, low⟩ [.sl c zs.length (zs.map (.int .i64))] k := callL_in l2Nums_sound (c, zs) hpre h
set_option maxRecDepth 10000 in
theorem axisOk_sound : Sound Tryz.prog 184 (fnS (ι := Nat × List Int × Nat × List Int × Int) (fun | (c, xs, d, zs, i) => [.agg [.sl c xs.length (xs.map (.int .i64)), .sl d zs.length (zs.map (.int .i64))], .int .i64 i]) (fun _ => True) (fun | (_, xs, _, _, i) => .bool (decide (0 ≤ i ∧ i < xs.length)))) := by
  refine sound_of Tryz.func184 rfl (enters_of Tryz.func184 (by kernel_rfl) (by kernel_rfl)) ?_
  rintro ⟨c, xs, d, zs, i⟩ -
  conv => whnf
  repeat' (first
    | ((first | refine aIf_t ?_ | refine aIf_f ?_ | refine fun (_ : _ ≤ maxLen) => ?_ | refine aGet_in rfl ?_ | refine And.intro rfl (And.intro (List.cons_ne_nil _ _) ?_) | refine append_same ?_); conv => whnf) | refine aIf_eqt ?_
    | (refine aIf_dec (fun _ => ?_) (fun _ => ?_) <;> conv => whnf))
  all_goals (refine retS rfl (congrArg AV.bool ?_); simp; try omega)
theorem axisOk_call {c d : Nat} {xs zs : List Int} {i : Int} {env : List AV} {rows : List Row} {ctr low : Nat} {k : AV → St → Prop} (h : k (.bool (decide (0 ≤ i ∧ i < xs.length))) ⟨env, rows, ctr + 1, low⟩) :
    CallB Tryz.prog 184 ⟨env, rows, ctr, low⟩ [.agg [.sl c xs.length (xs.map (.int .i64)), .sl d zs.length (zs.map (.int .i64))], .int .i64 i] k := callS_in axisOk_sound (c, xs, d, zs, i) trivial rfl h
theorem tensor_len {xs zs : List Int} (h : tensorOk xs zs = true) : xs.length ≤ 3 ∧ 1 ≤ zs.length ∧ zs.length ≤ 64 := by
  obtain ⟨h1, h2, h3⟩ := (tensorOk_iff _ _).1 h
  have h4 := cnt64 h1 (Nat.le_refl _)
  exact ⟨((shapeOk_iff _).1 h1).1, by omega, by omega⟩
theorem tensor_or (xs zs : List Int) : (tensorOk xs zs = true ∧ xs.length ≤ 3 ∧ 1 ≤ zs.length ∧ zs.length ≤ 64) ∨ tensorOk xs zs = false := by
  cases h : tensorOk xs zs
  · exact .inr rfl
  · exact .inl ⟨rfl, tensor_len h⟩
abbrev nl (v : Nat) : Row := ⟨v, 3, 1, []⟩
abbrev li (v : Nat) (zs : List Int) : Row := ⟨v, 3, 1, zs.map (.int .i64)⟩
abbrev bt (v : Nat) (cells : List AV) : Row := ⟨v, 40, 2, cells⟩
abbrev TM := List Int × List Int × Bool
def noT : TM := ([], [], false)
def negM (xs zs : List Int) : TM := if tensorOk xs zs = true then (xs, zs.map (fun z => -z), true) else noT
theorem neg_t {xs zs : List Int} (h : tensorOk xs zs = true) : negM xs zs = (xs, zs.map (fun z => -z), true) := if_pos h
theorem neg_f {xs zs : List Int} (h : tensorOk xs zs = false) : negM xs zs = noT := if_neg (by rw [h]; exact Bool.false_ne_true)
theorem getD_map {zs : List Int} {f : Int → Int} {j : Nat} (h : j < zs.length) : (zs.map f).getD j 0 = f (zs.getD j 0) := by
  simp [List.getD, List.getElem?_map, List.getElem?_eq_getElem h]
def sNegOf : CSpec := fnTB (ι := Nat × List Int × Nat × List Int) 3 (fun | (c, xs, d, zs) => [.agg [.sl c xs.length (xs.map (.int .i64)), .sl d zs.length (zs.map (.int .i64))]]) (fun _ => True) (fun | (_, xs, _, zs) => negM xs zs)
def ngP (zs : List Int) : Prop := zs.length ≤ 1048576 ∧ ∀ j, j < zs.length → -1000000000000 ≤ zs.getD j 0 ∧ zs.getD j 0 ≤ 1000000000000
def sNegN : CSpec := fnL (ι := Nat × List Int) 3 (fun | (c, zs) => [.sl c zs.length (zs.map (.int .i64))]) (fun | (_, zs) => ngP zs) (fun | (_, zs) => zs.map (fun z => -z))
set_option maxRecDepth 10000 in
theorem negNums_sound : Sound Tryz.prog 158 sNegN := by
  refine sound_of Tryz.func158 rfl (enters_of Tryz.func158 (by kernel_rfl) (by kernel_rfl)) ?_
  rintro ⟨c, zs⟩ hpre
  obtain ⟨hz, hnum⟩ : ngP zs := hpre
  have hmax : maxLen = 9223372036854775807 := rfl
  conv => whnf
  repeat' (first
    | ((first | refine fun (_ : _ ≤ maxLen) => ?_ | refine And.intro (And.intro (Int.le_refl _) (And.intro (by kernel_rfl) (And.intro rfl (by kernel_rfl)))) (And.intro (And.intro (by omega) (And.intro (bytes_le (b := 8) rfl (by omega)) (by omega))) ?_) | refine append_same ?_); conv => whnf))
  refine loop_u (ι := Nat × List Int) [false, false, false, true, false, false, false, false, false, true, true, true, false, false, false, false, false, false, false, false, false, false, false] (fun | (k, _) => [(11, .int .i64 k)]) (fun | (_, ws) => [(1, ws.map (.int .i64))]) (fun x => x.1 ≤ zs.length ∧ x.2.length = zs.length ∧ ∀ j, j < x.1 → x.2.getD j 0 = -(zs.getD j 0)) (fun x => zs.length - x.1) ((0, List.replicate zs.length 0)) ⟨Nat.zero_le _, by simp, fun j hj => absurd hj (Nat.not_lt_zero _)⟩ ?_ ?_
  · conv => whnf
    repeat' (first
      | exact trivial | exact rfl
      | exact pureL_ints _ _ | exact Or.inl (And.intro rfl rfl)
      | exact le_ints (rep_ints _ _) | refine And.intro ?_ ?_
      | exact Nat.le_of_ble_eq_true rfl)
  · rintro ⟨k, ws⟩ ⟨hk, hl, hall⟩
    have hk : k ≤ zs.length := hk
    have hl : ws.length = zs.length := hl
    have hall : ∀ j, j < k → ws.getD j 0 = -(zs.getD j 0) := hall
    conv => whnf
    repeat' (first
      | ((first | refine get_nat (by omega) ?_ | refine And.intro (by omega) ?_ | refine append_same ?_ | refine And.intro rfl (And.intro rfl (And.intro (by first | omega | (rw [List.length_map]; omega)) ?_)) | refine set_nat ?_ (by omega)); conv => whnf) | (refine aIf_dec (fun _ => ?_) (fun _ => ?_) <;> conv => whnf))
    · have hn := hnum k (by omega)
      have hw : IntKind.i64.wrap (0 - zs.getD k 0) = -(zs.getD k 0) := (IntWalk.i64_in _ (by omega)).trans (by omega)
      refine next_u (k + 1, ws.set k (IntKind.i64.wrap (0 - zs.getD k 0))) (show zs.length - (k + 1) < zs.length - k by omega) ⟨(show k + 1 ≤ zs.length by omega), by simpa using hl, fun j hj => ?_⟩ ?_
      · have hj : j < k + 1 := hj
        show (ws.set k (IntKind.i64.wrap (0 - zs.getD k 0))).getD j 0 = _
        rw [getD_set (by omega)]
        split
        · rename_i e; rw [e] at hw; rw [e]; exact hw
        · exact hall j (by omega)
      · conv => whnf
        repeat' (first
          | exact trivial | exact rfl
          | exact pureL_ints _ _ | exact Or.inl (And.intro rfl rfl)
          | exact le_ints rfl | refine And.intro ?_ ?_
          | exact Nat.le_of_ble_eq_true rfl | exact int_eq (by rw [IntWalk.i64_in _ (by omega)] <;> omega))
    · have e : ws = zs.map (fun z => -z) := getD_ext (by simpa using hl) fun j hj => by
        rw [List.length_map] at hj
        rw [hall j (by omega), getD_map hj]
      subst e
      exact retL rfl rfl rfl (by simp)
theorem negNums_call {c : Nat} {zs : List Int} {env : List AV} {rows : List Row} {ctr low : Nat} {k : AV → St → Prop} (hpre : ngP zs) (h : k (.ref rows.length ctr 0 (zs.map (fun z => -z)).length) ⟨env, rows ++ [⟨ctr, 3, 1, (zs.map (fun z => -z)).map (.int .i64)⟩], ctr + 1, low⟩) :
    CallB Tryz.prog 158 ⟨env, rows, ctr, low⟩ [.sl c zs.length (zs.map (.int .i64))] k := callL_in negNums_sound (c, zs) hpre h
set_option maxRecDepth 10000 in
theorem iNegOf_sound : Sound Tryz.prog 164 sNegOf := by
  refine sound_of Tryz.func164 rfl (enters_of Tryz.func164 (by kernel_rfl) (by kernel_rfl)) ?_
  rintro ⟨c, xs, d, zs⟩ -
  rcases tensor_or xs zs with ⟨ht, hx, hz⟩ | ht
  · have hnum := ((tensorOk_iff _ _).1 ht).2.2
    have hng : ngP zs := ⟨by omega, fun j hj => by have := hnum j hj; omega⟩
    conv => whnf
    repeat' (first
      | ((first | refine plan_in (id := 3) [0, 1, 3, 4, 2, 5, 6, 7, 8] (by kernel_rfl) (by kernel_rfl) ?_ | refine aGet_in rfl ?_ | refine load_same ?_ | refine And.intro rfl (And.intro (List.cons_ne_nil _ _) ?_) | refine And.intro (Nat.le_of_ble_eq_true rfl) ?_ | refine callG_t ?_ | refine copyNums_call (by omega) ?_ | refine iTensorOk_call ?_ | refine append_same ?_); conv => whnf) | (refine negNums_call (by first | omega | assumption | (refine ⟨?_, ?_⟩ <;> first | assumption | omega) | (refine ⟨?_, ?_, ?_⟩ <;> first | assumption | omega)) ?_; conv => whnf) | ((first | refine takeN_in ?_ | refine And.intro (pureL_ints _ _) ?_ | refine set_force ?_ | refine And.intro (by kernel_rfl) ?_ | refine aIf_tt (by assumption) ?_); conv => whnf) | refine aIf_not ?_)
    refine retTB (hM := neg_t ht) ?_ ?_ ?_ ?_ ?_
    all_goals (first | exact rfl | decide | (simp; done))
  · conv => whnf
    repeat' (first
      | ((first | refine plan_in (id := 3) [0, 1, 3, 4, 2, 5, 6, 7, 8] (by kernel_rfl) (by kernel_rfl) ?_ | refine load_same ?_ | refine And.intro rfl (And.intro (List.cons_ne_nil _ _) ?_) | refine And.intro (Nat.le_of_ble_eq_true rfl) ?_ | refine callG_t ?_ | refine iTensorOk_call ?_ | refine append_same ?_ | refine takeN_in ?_ | refine And.intro (pureL_ints _ _) ?_ | refine set_force ?_ | refine And.intro (by kernel_rfl) ?_ | refine aIf_ff (by assumption) ?_); conv => whnf) | refine aIf_not ?_)
    refine retTB (hM := neg_f ht) ?_ ?_ ?_ ?_ ?_
    all_goals (first | exact rfl | decide | (simp; done))
theorem iNegOf_call {c d : Nat} {xs zs : List Int} {env : List AV} {rows : List Row} {ctr low : Nat} {k : AV → St → Prop} (hk : k (.tup [.agg [.ref rows.length ctr 0 (negM xs zs).1.length, .ref (rows.length + 1) ctr 0 (negM xs zs).2.1.length], .bool (negM xs zs).2.2]) ⟨env, rows ++ [⟨ctr, 3, 1, (negM xs zs).1.map (.int .i64)⟩, ⟨ctr, 3, 1, (negM xs zs).2.1.map (.int .i64)⟩], ctr + 1, low⟩) :
    CallB Tryz.prog 164 ⟨env, rows, ctr, low⟩ [.agg [.sl c xs.length (xs.map (.int .i64)), .sl d zs.length (zs.map (.int .i64))]] k := callTB_in iNegOf_sound (c, xs, d, zs) trivial hk
end Go.Proofs.YtjmdhfjemaoebaaGreat
namespace Go.Proofs.YtjmdhfjemaoebaaGreat
set_option maxRecDepth 20000
open Go.RowKit Go.Am
attribute [local irreducible] aPlan aGet aIf aLoop aCall RetB NextB CallB CallG aCut aSet aAppend
def foldM (xs zs ys : List Int) : TM := if tensorOk xs zs = true ∧ countOf ys = zs.length then (ys, zs, true) else noT
theorem fold_t {xs zs ys : List Int} (h : tensorOk xs zs = true) (h' : countOf ys = zs.length) : foldM xs zs ys = (ys, zs, true) := if_pos ⟨h, h'⟩
theorem fold_f1 {xs zs ys : List Int} (h : tensorOk xs zs = false) : foldM xs zs ys = noT := if_neg (by rw [h]; exact fun h => Bool.false_ne_true h.1)
theorem fold_f2 {xs zs ys : List Int} (h : countOf ys ≠ zs.length) : foldM xs zs ys = noT := if_neg (fun h' => h h'.2)
def sFoldOf : CSpec := fnTB (ι := Nat × List Int × Nat × List Int × Nat × List Int) 3 (fun | (c, xs, d, zs, e, ys) => [.agg [.sl c xs.length (xs.map (.int .i64)), .sl d zs.length (zs.map (.int .i64))], .sl e ys.length (ys.map (.int .i64))]) (fun | (_, _, _, _, _, ys) => ys.length ≤ 1048576) (fun | (_, xs, _, zs, _, ys) => foldM xs zs ys)
set_option maxRecDepth 10000 in
theorem iFoldOf_sound : Sound Tryz.prog 167 sFoldOf := by
  refine sound_of Tryz.func167 rfl (enters_of Tryz.func167 (by kernel_rfl) (by kernel_rfl)) ?_
  rintro ⟨c, xs, d, zs, e, ys⟩ hpre
  have hpre : ys.length ≤ 1048576 := hpre
  rcases tensor_or xs zs with ⟨ht, hx, hz⟩ | ht
  · conv => whnf
    repeat' (first
      | ((first | refine plan_in (id := 1) [0, 1, 2, 3, 4, 6, 7, 8, 5, 9, 10] (by kernel_rfl) (by kernel_rfl) ?_ | refine plan_in (id := 3) [0, 2, 3, 1, 4, 5, 6, 7] (by kernel_rfl) (by kernel_rfl) ?_ | refine aIf_t ?_ | refine aIf_f ?_ | refine fun (_ : _ ≤ maxLen) => ?_ | refine aGet_in rfl ?_ | refine load_same ?_ | refine And.intro rfl (And.intro (List.cons_ne_nil _ _) ?_) | refine And.intro (Nat.le_of_ble_eq_true rfl) ?_ | refine copyNums_call (by omega) ?_ | refine iTensorOk_call ?_ | refine append_same ?_ | refine takeN_in ?_ | refine And.intro (pureL_ints _ _) ?_ | refine iCountOf_call ?_ | refine set_force ?_ | refine And.intro (by kernel_rfl) ?_ | refine aIf_tt (by assumption) ?_); conv => whnf) | refine aIf_eqf ?_
      | refine aIf_not ?_ | (refine aIf_dec (fun _ => ?_) (fun _ => ?_) <;> conv => whnf))
    · rename_i h
      refine retTB (hM := fold_t ht h) ?_ ?_ ?_ ?_ ?_
      all_goals (first | exact rfl | decide | (simp; done))
    · rename_i h
      refine retTB (hM := fold_f2 h) ?_ ?_ ?_ ?_ ?_
      all_goals (first | exact rfl | decide | (simp; done))
  · conv => whnf
    repeat' (first
      | ((first | refine plan_in (id := 1) [0, 1, 2, 3, 4, 6, 7, 8, 5, 9, 10] (by kernel_rfl) (by kernel_rfl) ?_ | refine plan_in (id := 3) [0, 2, 3, 1, 4, 5, 6, 7] (by kernel_rfl) (by kernel_rfl) ?_ | refine aIf_t ?_ | refine aIf_f ?_ | refine load_same ?_ | refine And.intro rfl (And.intro (List.cons_ne_nil _ _) ?_) | refine And.intro (Nat.le_of_ble_eq_true rfl) ?_ | refine iTensorOk_call ?_ | refine append_same ?_ | refine takeN_in ?_ | refine And.intro (pureL_ints _ _) ?_ | refine set_force ?_ | refine And.intro (by kernel_rfl) ?_ | refine aIf_ff (by assumption) ?_); conv => whnf) | refine aIf_eqf ?_
      | refine aIf_not ?_)
    refine retTB (hM := fold_f1 ht) ?_ ?_ ?_ ?_ ?_
    all_goals (first | exact rfl | decide | (simp; done))
theorem iFoldOf_call {c d e : Nat} {xs zs ys : List Int} {env : List AV} {rows : List Row} {ctr low : Nat} {k : AV → St → Prop} (hpre : ys.length ≤ 1048576)
    (hk : k (.tup [.agg [.ref rows.length ctr 0 (foldM xs zs ys).1.length, .ref (rows.length + 1) ctr 0 (foldM xs zs ys).2.1.length], .bool (foldM xs zs ys).2.2]) ⟨env, rows ++ [⟨ctr, 3, 1, (foldM xs zs ys).1.map (.int .i64)⟩, ⟨ctr, 3, 1, (foldM xs zs ys).2.1.map (.int .i64)⟩], ctr + 1, low⟩) :
    CallB Tryz.prog 167 ⟨env, rows, ctr, low⟩ [.agg [.sl c xs.length (xs.map (.int .i64)), .sl d zs.length (zs.map (.int .i64))], .sl e ys.length (ys.map (.int .i64))] k := callTB_in iFoldOf_sound (c, xs, d, zs, e, ys) hpre hk
end Go.Proofs.YtjmdhfjemaoebaaGreat
namespace Go.Proofs.YtjmdhfjemaoebaaGreat
set_option maxRecDepth 20000
open Go.RowKit Go.Am
def dotTo (ps ss : List Int) : Nat → Int
  | 0 => 0
  | k + 1 => dotTo ps ss k + ps.getD k 0 * ss.getD k 0
theorem mul_in {a b : Int} (ha : 0 ≤ a ∧ a ≤ 3) (hb : 0 ≤ b ∧ b ≤ 64) : 0 ≤ a * b ∧ a * b ≤ 192 := by
  have h1 := Int.mul_le_mul ha.2 hb.2 hb.1 (by omega)
  exact ⟨Int.mul_nonneg ha.1 hb.1, by omega⟩
theorem dot_in {ps ss : List Int} {n : Nat} (hp : ∀ j, j < n → 0 ≤ ps.getD j 0 ∧ ps.getD j 0 ≤ 3) (hs : ∀ j, j < n → 0 ≤ ss.getD j 0 ∧ ss.getD j 0 ≤ 64) : ∀ k, k ≤ n → 0 ≤ dotTo ps ss k ∧ dotTo ps ss k ≤ 192 * k
  | 0, _ => ⟨Int.le_refl 0, Int.le_refl 0⟩
  | k + 1, hk => by
    have ih := dot_in hp hs k (by omega)
    have h1 := mul_in (hp k (by omega)) (hs k (by omega))
    show 0 ≤ dotTo ps ss k + _ ∧ dotTo ps ss k + _ ≤ _
    omega
theorem dot_mono {ps ss : List Int} {n : Nat} (hp : ∀ j, j < n → 0 ≤ ps.getD j 0 ∧ ps.getD j 0 ≤ 3) (hs : ∀ j, j < n → 0 ≤ ss.getD j 0 ∧ ss.getD j 0 ≤ 64) {q : Nat} : ∀ d, q + d ≤ n → dotTo ps ss q ≤ dotTo ps ss (q + d)
  | 0, _ => Int.le_refl _
  | d + 1, hd => by
    have ih := dot_mono hp hs d (q := q) (by omega)
    have h1 := mul_in (hp (q + d) (by omega)) (hs (q + d) (by omega))
    have e : dotTo ps ss (q + (d + 1)) = dotTo ps ss (q + d) + ps.getD (q + d) 0 * ss.getD (q + d) 0 := rfl
    omega
theorem str_bound {zs : List Int} (hs : shapeOk zs = true) : ∀ m, m ≤ zs.length → 1 ≤ strT zs m ∧ strT zs m ≤ 4 ^ m
  | 0, _ => ⟨Int.le_refl _, Int.le_refl _⟩
  | m + 1, hm => by
    obtain ⟨h1, h2⟩ := str_bound hs m (by omega)
    have h5 := size_in hs (j := zs.length - 1 - m) (by omega)
    have h3 := ((shapeOk_iff zs).1 hs).1
    have hp := pow4 (n := m) (by omega)
    have a1 : 1 * 1 ≤ strT zs m * zs.getD (zs.length - 1 - m) 0 := Int.mul_le_mul h1 h5.1 (by decide) (by omega)
    have a2 : strT zs m * zs.getD (zs.length - 1 - m) 0 ≤ 4 ^ m * 4 := Int.mul_le_mul h2 h5.2 (by omega) (by omega)
    have e := strT_next (zs := zs) (q := zs.length - (m + 1)) (by omega)
    rw [show zs.length - (zs.length - (m + 1)) = m + 1 by omega, show zs.length - (zs.length - (m + 1) + 1) = m by omega, show zs.length - (m + 1) = zs.length - 1 - m by omega] at e
    rw [IntWalk.i64_in _ (by omega)] at e
    rw [e, Int.pow_succ]
    exact ⟨by omega, a2⟩
theorem str_in {zs : List Int} (hs : shapeOk zs = true) {m : Nat} (hm : m ≤ zs.length) : 1 ≤ strT zs m ∧ strT zs m ≤ 64 := by
  have h1 := str_bound hs m hm
  have h3 := ((shapeOk_iff zs).1 hs).1
  have hp := pow4 (n := m) (by omega)
  omega
theorem str_next {zs : List Int} (hs : shapeOk zs = true) {k : Nat} (hk : k < zs.length) : strT zs (zs.length - k) = strT zs (zs.length - (k + 1)) * zs.getD k 0 := by
  have h1 := str_in hs (m := zs.length - (k + 1)) (by omega)
  have h2 := size_in hs hk
  have h3 := mul_le4 (a := strT zs (zs.length - (k + 1))) (x := zs.getD k 0) (by omega) (by omega)
  rw [strT_next (by omega)]
  exact IntWalk.i64_in _ (by omega)
theorem strides_in {zs : List Int} (hs : shapeOk zs = true) {j : Nat} (hj : j < zs.length) : 1 ≤ (strides zs).getD j 0 ∧ (strides zs).getD j 0 ≤ 64 := by
  rw [strides_getD hj]; exact str_in hs (by omega)
theorem idx_dot_k {xs ps : List Int} (hs : shapeOk xs = true) (hp : ∀ j, j < xs.length → 0 ≤ ps.getD j 0 ∧ ps.getD j 0 < xs.getD j 0) : ∀ k, k ≤ xs.length → idxTo xs ps k * strT xs (xs.length - k) = dotTo ps (strides xs) k
  | 0, _ => by show 0 * _ = 0; exact Int.zero_mul _
  | k + 1, hk => by
    have ih := idx_dot_k hs hp k (by omega)
    have hr := idx_range hs hp k (by omega)
    rw [idx_next hs (by omega) hr (hp k (by omega)), Int.add_mul, Int.mul_assoc, Int.mul_comm (xs.getD k 0), ← str_next hs (by omega), ih]
    show _ = dotTo ps (strides xs) k + ps.getD k 0 * (strides xs).getD k 0
    rw [strides_getD (by omega), show xs.length - 1 - k = xs.length - (k + 1) by omega]
theorem idx_dot {xs ps : List Int} (hs : shapeOk xs = true) (hp : ∀ j, j < xs.length → 0 ≤ ps.getD j 0 ∧ ps.getD j 0 < xs.getD j 0) : idxTo xs ps xs.length = dotTo ps (strides xs) xs.length := by
  have h := idx_dot_k hs hp xs.length (Nat.le_refl _)
  rw [Nat.sub_self] at h
  have e : strT xs 0 = 1 := rfl
  rw [e, Int.mul_one] at h
  exact h
theorem places_in {zs : List Int} {i : Int} (hs : shapeOk zs = true) (hi : 0 ≤ i ∧ i < cntTo zs zs.length) {j : Nat} (hj : j < zs.length) : 0 ≤ (places zs i).getD j 0 ∧ (places zs i).getD j 0 ≤ 3 := by
  have h1 := place_in hs hi hj
  have h2 := size_in hs hj
  omega
def rdAt (shape steps : List Int) (start : Int) (i : Nat) : Int := start + dotTo (places shape i) steps shape.length
def rdL (nums shape steps : List Int) (start : Int) : List Int := (List.range (cntTo shape shape.length).toNat).map fun i => nums.getD (rdAt shape steps start i).toNat 0
theorem rdL_length (nums shape steps : List Int) (start : Int) : (rdL nums shape steps start).length = (cntTo shape shape.length).toNat := by simp [rdL]
theorem range_getD {n : Nat} {f : Nat → Int} {j : Nat} (h : j < n) : ((List.range n).map f).getD j 0 = f j := by
  simp [List.getD, List.getElem?_map, List.getElem?_range h]
theorem rdL_getD {nums shape steps : List Int} {start : Int} {j : Nat} (h : j < (cntTo shape shape.length).toNat) : (rdL nums shape steps start).getD j 0 = nums.getD (rdAt shape steps start j).toNat 0 := range_getD h
end Go.Proofs.YtjmdhfjemaoebaaGreat
namespace Go.Proofs.YtjmdhfjemaoebaaGreat
set_option maxRecDepth 20000
open Go.RowKit Go.Am
def sizes : List Int := [1, 2, 3, 4]
def shapes3 (a : Int) : List (List Int) := sizes.flatMap fun b => sizes.map fun c => [a, b, c]
def shapes2 : List (List Int) := [] :: (sizes.map fun a => [a]) ++ (sizes.flatMap fun a => sizes.map fun b => [a, b])
theorem size_mem {z : Int} (h : 1 ≤ z ∧ z ≤ 4) : z ∈ sizes := by
  have : z = 1 ∨ z = 2 ∨ z = 3 ∨ z = 4 := by omega
  simpa [sizes] using this
theorem shape_all {p : List Int → Bool} (h2 : shapes2.all p = true) (h31 : (shapes3 1).all p = true) (h32 : (shapes3 2).all p = true) (h33 : (shapes3 3).all p = true) (h34 : (shapes3 4).all p = true) {xs : List Int} (h : shapeOk xs = true) : p xs = true := by
  have hl := ((shapeOk_iff xs).1 h).1
  have hs : ∀ z ∈ xs, z ∈ sizes := fun z hz => by
    obtain ⟨j, hj, rfl⟩ := List.mem_iff_getElem.1 hz
    have := size_in h hj
    simp only [List.getD, List.getElem?_eq_getElem hj, Option.getD_some] at this
    exact size_mem this
  rw [List.all_eq_true] at h2 h31 h32 h33 h34
  match xs, hl, hs with
  | [], _, _ => exact h2 _ (by simp [shapes2])
  | [a], _, hs =>
    have ha := hs a (by simp)
    exact h2 _ (by simp [shapes2, ha])
  | [a, b], _, hs =>
    have ha := hs a (by simp)
    have hb := hs b (by simp)
    exact h2 _ (by simp [shapes2, ha, hb])
  | [a, b, c], _, hs =>
    have ha := hs a (by simp)
    have hb := hs b (by simp)
    have hc := hs c (by simp)
    have hm : [a, b, c] ∈ shapes3 a := by
      unfold shapes3
      rw [List.mem_flatMap]
      exact ⟨b, hb, List.mem_map.2 ⟨c, hc, rfl⟩⟩
    have h4 : a = 1 ∨ a = 2 ∨ a = 3 ∨ a = 4 := by simpa [sizes] using ha
    rcases h4 with rfl | rfl | rfl | rfl
    · exact h31 _ hm
    · exact h32 _ hm
    · exact h33 _ hm
    · exact h34 _ hm
  | _ :: _ :: _ :: _ :: _, hl, _ => simp only [List.length_cons] at hl; omega
end Go.Proofs.YtjmdhfjemaoebaaGreat
