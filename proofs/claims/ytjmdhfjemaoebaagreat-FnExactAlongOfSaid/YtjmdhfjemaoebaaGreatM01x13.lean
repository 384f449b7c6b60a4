import Derived.Test.YtjmdhfjemaoebaaGreatM01x12
import Derived.Test.YtjmdhfjemaoebaaGreatM01x10
import Derived.Test.YtjmdhfjemaoebaaGreatM01x11
namespace Go.Proofs.YtjmdhfjemaoebaaGreat
set_option maxRecDepth 20000
open Go.RowKit Go.Am
attribute [local irreducible] aPlan aGet aIf aLoop aCall RetB NextB CallB CallG aCut aSet
def cntTo (zs : List Int) : Nat → Int
  | 0 => 1
  | k + 1 => IntKind.i64.wrap (cntTo zs k * zs.getD k 0)
def countOf (zs : List Int) : Int := if shapeOk zs = true then cntTo zs zs.length else -1
set_option maxRecDepth 10000 in
theorem l1Count_sound : Sound Tryz.prog 99 (fnS (ι := Nat × List Int) (fun | (c, zs) => [.sl c zs.length (zs.map (.int .i64))]) (fun _ => True) (fun | (_, zs) => .int .i64 (cntTo zs zs.length))) := by
  refine sound_of Tryz.func99 rfl (enters_of Tryz.func99 (by kernel_rfl) (by kernel_rfl)) ?_
  rintro ⟨c, zs⟩ -
  conv => whnf
  repeat' (first
    | (refine append_same ?_; conv => whnf))
  refine loop_in (ι := Nat) (fun k => ⟨[.sl c zs.length (zs.map (.int .i64)), .un, .un, .int .i64 (cntTo zs k), .int .i64 k, .un, .un, .un, .un, .un, .un, .un, .un, .un, .un, .un, .un, .un], [], 1, 0⟩) (fun k => k ≤ zs.length) (fun k => zs.length - k) 0 (Nat.zero_le _) ?_ ?_
  · repeat' (first
      | exact trivial | exact rfl
      | exact pureL_ints _ _ | refine And.intro ?_ ?_
      | exact Nat.le_of_ble_eq_true rfl)
  · intro k hk
    have hk : k ≤ zs.length := hk
    conv => whnf
    repeat' (first
      | ((first | refine fun (_ : _ ≤ maxLen) => ?_ | refine get_nat (by omega) ?_ | refine And.intro (by omega) ?_ | refine append_same ?_); conv => whnf) | (refine aIf_dec (fun _ => ?_) (fun _ => ?_) <;> conv => whnf))
    · refine next_in (k + 1) (show zs.length - (k + 1) < zs.length - k by omega) (by omega) ?_
      have hmax : maxLen = 9223372036854775807 := rfl
      repeat' (first
        | exact trivial | exact rfl
        | exact pureL_ints _ _ | refine And.intro ?_ ?_
        | exact Nat.le_of_ble_eq_true rfl | exact int_eq (by rw [IntWalk.i64_in _ (by omega)] <;> omega))
    · have e : k = zs.length := by omega
      subst e
      exact retS rfl rfl
theorem l1Count_call {c : Nat} {zs : List Int} {env : List AV} {rows : List Row} {ctr low : Nat} {k : AV → St → Prop} (h : k (.int .i64 (cntTo zs zs.length)) ⟨env, rows, ctr + 1, low⟩) :
    CallB Tryz.prog 99 ⟨env, rows, ctr, low⟩ [.sl c zs.length (zs.map (.int .i64))] k := callS_in l1Count_sound (c, zs) trivial rfl h
set_option maxRecDepth 10000 in
theorem sCountOf_sound : Sound Tryz.prog 145 (fnS (ι := Nat × List Int) (fun | (c, zs) => [.sl c zs.length (zs.map (.int .i64))]) (fun _ => True) (fun | (_, zs) => .int .i64 (countOf zs))) := by
  refine sound_of Tryz.func145 rfl (enters_of Tryz.func145 (by kernel_rfl) (by kernel_rfl)) ?_
  rintro ⟨c, zs⟩ -
  conv => whnf
  repeat' (first
    | ((first | refine callG_t ?_ | refine append_same ?_ | refine And.intro (pureL_ints _ _) ?_ | refine sShapeOk_call ?_ | refine l1Count_call ?_); conv => whnf) | refine aIf_not ?_
    | (refine aIf_in (fun _ => ?_) (fun _ => ?_) <;> conv => whnf))
  · rename_i h
    exact retS rfl (int_eq (by rw [countOf, if_pos h]))
  · rename_i h
    exact retS rfl (int_eq (by rw [countOf, if_neg (by rw [h]; decide)]))
theorem sCountOf_call {c : Nat} {zs : List Int} {env : List AV} {rows : List Row} {ctr low : Nat} {k : AV → St → Prop} (h : k (.int .i64 (countOf zs)) ⟨env, rows, ctr + 1, low⟩) :
    CallB Tryz.prog 145 ⟨env, rows, ctr, low⟩ [.sl c zs.length (zs.map (.int .i64))] k := callS_in sCountOf_sound (c, zs) trivial rfl h
set_option maxRecDepth 10000 in
theorem iCountOf_sound : Sound Tryz.prog 113 (fnS (ι := Nat × List Int) (fun | (c, zs) => [.sl c zs.length (zs.map (.int .i64))]) (fun _ => True) (fun | (_, zs) => .int .i64 (countOf zs))) := by
  refine sound_of Tryz.func113 rfl (enters_of Tryz.func113 (by kernel_rfl) (by kernel_rfl)) ?_
  rintro ⟨c, zs⟩ -
  conv => whnf
  repeat' (first
    | ((first | refine fun (_ : _ ≤ maxLen) => ?_ | refine callG_t ?_ | refine append_same ?_ | refine And.intro (pureL_ints _ _) ?_ | refine iShapeOk_call ?_); conv => whnf) | refine aIf_not ?_
    | (refine aIf_in (fun _ => ?_) (fun _ => ?_) <;> conv => whnf))
  · rename_i h _
    refine loop_in (ι := Nat) (fun k => ⟨[.sl c zs.length (zs.map (.int .i64)), .un, .int .i64 0, .int .i64 (cntTo zs k), .un, .un, .un, .un, .un, .sl c zs.length (zs.map (.int .i64)), .int .i64 zs.length, .int .i64 k, .un, .un, .un, .un, .un, .un, .un, .un], [], 2, 0⟩) (fun k => k ≤ zs.length) (fun k => zs.length - k) 0 (Nat.zero_le _) ?_ ?_
    · repeat' (first
        | exact trivial | exact rfl
        | exact pureL_ints _ _ | refine And.intro ?_ ?_
        | exact Nat.le_of_ble_eq_true rfl)
    · intro k hk
      have hk : k ≤ zs.length := hk
      conv => whnf
      repeat' (first
        | ((first | refine get_nat (by omega) ?_ | refine And.intro (by omega) ?_ | refine append_same ?_); conv => whnf) | (refine aIf_dec (fun _ => ?_) (fun _ => ?_) <;> conv => whnf))
      · refine next_in (k + 1) (show zs.length - (k + 1) < zs.length - k by omega) (by omega) ?_
        have hmax : maxLen = 9223372036854775807 := rfl
        repeat' (first
          | exact trivial | exact rfl
          | exact pureL_ints _ _ | refine And.intro ?_ ?_
          | exact Nat.le_of_ble_eq_true rfl | exact int_eq (by rw [IntWalk.i64_in _ (by omega)] <;> omega))
      · have e : k = zs.length := by omega
        subst e
        exact retS rfl (int_eq (by rw [countOf, if_pos h]))
  · rename_i h
    exact retS rfl (int_eq (by rw [countOf, if_neg (by rw [h]; decide)]))
theorem iCountOf_call {c : Nat} {zs : List Int} {env : List AV} {rows : List Row} {ctr low : Nat} {k : AV → St → Prop} (h : k (.int .i64 (countOf zs)) ⟨env, rows, ctr + 1, low⟩) :
    CallB Tryz.prog 113 ⟨env, rows, ctr, low⟩ [.sl c zs.length (zs.map (.int .i64))] k := callS_in iCountOf_sound (c, zs) trivial rfl h
def strT (zs : List Int) : Nat → Int
  | 0 => 1
  | m + 1 => IntKind.i64.wrap (strT zs m * zs.getD (zs.length - 1 - m) 0)
def strides (zs : List Int) : List Int := (List.range zs.length).map fun i => strT zs (zs.length - 1 - i)
theorem strides_length (zs : List Int) : (strides zs).length = zs.length := by simp [strides]
theorem strides_getD {zs : List Int} {j : Nat} (h : j < zs.length) : (strides zs).getD j 0 = strT zs (zs.length - 1 - j) := by
  simp [strides, List.getD, List.getElem?_map, List.getElem?_range h]
def strInv (zs : List Int) (x : Nat × List Int) : Prop := x.1 ≤ zs.length ∧ x.2.length = zs.length ∧ ∀ j, x.1 ≤ j → j < zs.length → x.2.getD j 0 = strT zs (zs.length - 1 - j)
theorem strInv_0 (zs : List Int) : strInv zs (zs.length, List.replicate zs.length 0) := ⟨Nat.le_refl _, by simp, fun j h1 h2 => by omega⟩
theorem strInv_next {zs : List Int} {q : Nat} {ws : List Int} (h : strInv zs (q + 1, ws)) : strInv zs (q, ws.set q (strT zs (zs.length - (q + 1)))) := by
  obtain ⟨h1, h2, h3⟩ := h
  have h1 : q + 1 ≤ zs.length := h1
  have h2 : ws.length = zs.length := h2
  have h3 : ∀ j, q + 1 ≤ j → j < zs.length → ws.getD j 0 = strT zs (zs.length - 1 - j) := h3
  refine ⟨(show q ≤ zs.length by omega), by simpa using h2, fun j hj hl => ?_⟩
  show (ws.set q (strT zs (zs.length - (q + 1)))).getD j 0 = _
  rw [getD_set (by omega)]
  split
  · rename_i e; subst e
    congr 1; omega
  · have hj : q ≤ j := hj
    exact h3 j (by omega) hl
theorem strInv_end {zs ws : List Int} (h : strInv zs (0, ws)) : ws = strides zs := getD_ext (by rw [strides_length]; exact h.2.1) fun j hj => by
  rw [strides_length] at hj
  rw [strides_getD hj]; exact h.2.2 j (Nat.zero_le _) hj
theorem strT_next {zs : List Int} {q : Nat} (h : q + 1 ≤ zs.length) : strT zs (zs.length - q) = IntKind.i64.wrap (strT zs (zs.length - (q + 1)) * zs.getD q 0) := by
  have e : zs.length - q = (zs.length - (q + 1)) + 1 := by omega
  rw [e, strT]
  congr 3; omega
def stridesOf (zs : List Int) : List Int := if shapeOk zs = true then strides zs else []
set_option maxRecDepth 10000 in
theorem iStridesOf_sound : Sound Tryz.prog 185 (fnL (ι := Nat × List Int) 3 (fun | (c, zs) => [.sl c zs.length (zs.map (.int .i64))]) (fun | (_, zs) => zs.length ≤ 1048576) (fun | (_, zs) => stridesOf zs)) := by
  refine sound_of Tryz.func185 rfl (enters_of Tryz.func185 (by kernel_rfl) (by kernel_rfl)) ?_
  rintro ⟨c, zs⟩ hpre
  have hpre : zs.length ≤ 1048576 := hpre
  conv => whnf
  repeat' (first
    | ((first | refine fun (_ : _ ≤ maxLen) => ?_ | refine And.intro (And.intro (Int.le_refl _) (And.intro (by kernel_rfl) (And.intro rfl (by kernel_rfl)))) (And.intro (And.intro (by omega) (And.intro (bytes_le (b := 8) rfl (by omega)) (by omega))) ?_) | refine callG_t ?_ | refine append_same ?_ | refine And.intro (pureL_ints _ _) ?_ | refine iShapeOk_call ?_); conv => whnf) | refine aIf_not ?_
    | (refine aIf_in (fun _ => ?_) (fun _ => ?_) <;> conv => whnf))
  · rename_i h _ _
    have e0 : stridesOf zs = strides zs := by rw [stridesOf, if_pos h]
    refine loop_in (ι := Nat × List Int) (fun | (q, ws) => ⟨[.sl c zs.length (zs.map (.int .i64)), .un, .un, .ref 1 3 0 zs.length, .int .i64 (strT zs (zs.length - q)), .int .i64 (q - 1), .un, .un, .un, .un, .un, .un, .un, .un, .un, .un, .un, .un, .un, .un, .un, .un, .un, .un, .un, .un, .un, .un, .un, .un], [⟨1, 3, 1, []⟩, ⟨3, 3, 1, ws.map (.int .i64)⟩], 4, 0⟩)
      (strInv zs) (fun x => x.1) (zs.length, List.replicate zs.length 0) (strInv_0 zs) ?_ ?_
    · have e0 : (1 : Int) = strT zs (zs.length - zs.length) := by rw [Nat.sub_self]; rfl
      repeat' (first
        | exact trivial | exact rfl
        | exact pureL_ints _ _ | exact Or.inl (And.intro rfl rfl)
        | exact le_ints (rep_ints _ _) | refine And.intro ?_ ?_
        | exact Nat.le_of_ble_eq_true rfl | exact int_eq (by assumption)
        | exact int_eq (by rw [IntWalk.i64_in _ (by omega)] <;> omega))
    · rintro ⟨q, ws⟩ hi
      have hq : q ≤ zs.length := hi.1
      have hl : ws.length = zs.length := hi.2.1
      conv => whnf
      repeat' (first
        | ((first | refine get_int (by omega) ?_ | refine And.intro (by omega) ?_ | refine append_same ?_ | refine And.intro rfl (And.intro rfl (And.intro (by first | omega | (rw [List.length_map]; omega)) ?_)) | refine set_int ?_ (by omega)); conv => whnf) | (refine aIf_dec (fun _ => ?_) (fun _ => ?_) <;> conv => whnf))
      · obtain ⟨q, rfl⟩ : ∃ q', q = q' + 1 := ⟨q - 1, by omega⟩
        have e1 : (((q + 1 : Nat) : Int) - 1).toNat = q := by omega
        have e2 := strT_next (zs := zs) hq
        rw [e1]
        refine next_in (q, ws.set q (strT zs (zs.length - (q + 1)))) (Nat.lt_succ_self _) (strInv_next hi) ?_
        rw [← e2]
        repeat' (first
          | exact trivial | exact rfl
          | exact pureL_ints _ _ | exact Or.inl (And.intro rfl rfl)
          | exact le_ints rfl | refine And.intro ?_ ?_
          | exact Nat.le_of_ble_eq_true rfl | exact int_eq (by rw [IntWalk.i64_in _ (by omega)] <;> omega))
      · have e : q = 0 := by omega
        subst e
        have e := strInv_end hi
        subst e
        show RetB _ _ (fun r ic news => r = .ref 0 0 0 (stridesOf zs).length ∧ ic = [] ∧ news = [⟨0, 3, 1, (stridesOf zs).map (.int .i64)⟩]) _
        rw [e0]
        exact retL rfl rfl rfl (strides_length zs).symm
  · rename_i h
    have e : stridesOf zs = [] := by rw [stridesOf, if_neg (by rw [h]; decide)]
    show RetB _ _ (fun r ic news => r = .ref 0 0 0 (stridesOf zs).length ∧ ic = [] ∧ news = [⟨0, 3, 1, (stridesOf zs).map (.int .i64)⟩]) _
    rw [e]
    exact retL rfl rfl rfl rfl
theorem iStridesOf_call {c : Nat} {zs : List Int} {env : List AV} {rows : List Row} {ctr low : Nat} {k : AV → St → Prop} (hpre : zs.length ≤ 1048576) (h : k (.ref rows.length ctr 0 (stridesOf zs).length) ⟨env, rows ++ [⟨ctr, 3, 1, (stridesOf zs).map (.int .i64)⟩], ctr + 1, low⟩) :
    CallB Tryz.prog 185 ⟨env, rows, ctr, low⟩ [.sl c zs.length (zs.map (.int .i64))] k := callL_in iStridesOf_sound (c, zs) hpre h
end Go.Proofs.YtjmdhfjemaoebaaGreat
namespace Go.Proofs.YtjmdhfjemaoebaaGreat
set_option maxRecDepth 20000
open Go.RowKit Go.Am
attribute [local irreducible] aPlan aGet aIf aLoop aCall RetB NextB CallB CallG aCut aSet
def marks (m : Int) (n : Nat) : List Int := (List.range n).map fun (j : Nat) => m + (j : Int)
theorem marks_length (m : Int) (n : Nat) : (marks m n).length = n := by simp [marks]
theorem marks_getD {m : Int} {n j : Nat} (h : j < n) : (marks m n).getD j 0 = m + j := by
  simp [marks, List.getD, List.getElem?_map, List.getElem?_range h]
def sMark : CSpec := fnM (ι := List Int × Int) 3 (fun x => x.1) (fun x => x.2) (fun x => x.1.length ≤ 1048576 ∧ 0 ≤ x.2 ∧ x.2 ≤ 1000000000000) (fun x => x.2 + x.1.length) (fun x => marks x.2 x.1.length)
set_option maxRecDepth 10000 in
theorem mark_sound : Sound Tryz.prog 61 sMark := by
  refine sound_of Tryz.func61 rfl (enters_of Tryz.func61 (by kernel_rfl) (by kernel_rfl)) ?_
  rintro ⟨zs, m⟩ hpre
  have hpre : zs.length ≤ 1048576 ∧ 0 ≤ m ∧ m ≤ 1000000000000 := hpre
  conv => whnf
  repeat' (first
    | (refine append_same ?_; conv => whnf))
  refine loop_in (ι := Nat × List Int) (fun | (k, ws) => ⟨[.ref 0 0 0 zs.length, .int .i64 (m + k), .un, .un, .int .i64 0, .int .i64 k, .un, .un, .un, .un, .un, .un, .un, .un, .un, .un, .un, .un, .un], [⟨0, 3, 1, ws.map (.int .i64)⟩], 1, 1⟩)
    (fun x => x.1 ≤ zs.length ∧ x.2.length = zs.length ∧ ∀ j, j < x.1 → x.2.getD j 0 = m + j) (fun x => zs.length - x.1) (0, zs) ⟨Nat.zero_le _, rfl, fun j hj => absurd hj (Nat.not_lt_zero _)⟩ ?_ ?_
  · repeat' (first
      | exact trivial | exact rfl
      | exact le_ints rfl | refine And.intro ?_ ?_
      | exact Nat.le_of_ble_eq_true rfl | exact int_eq (Int.add_zero _).symm)
  · rintro ⟨k, ws⟩ ⟨hk, hl, hall⟩
    have hk : k ≤ zs.length := hk
    have hl : ws.length = zs.length := hl
    have hall : ∀ j, j < k → ws.getD j 0 = m + j := hall
    conv => whnf
    repeat' (first
      | ((first | refine fun (_ : _ ≤ maxLen) => ?_ | refine And.intro (by omega) ?_ | refine append_same ?_ | refine And.intro rfl (And.intro rfl (And.intro (by first | omega | (rw [List.length_map]; omega)) ?_)) | refine set_nat ?_ (by omega)); conv => whnf) | (refine aIf_dec (fun _ => ?_) (fun _ => ?_) <;> conv => whnf))
    · refine next_in (k + 1, ws.set k (m + k)) (show zs.length - (k + 1) < zs.length - k by omega) ⟨(show k + 1 ≤ zs.length by omega), by simpa using hl, fun j hj => ?_⟩ ?_
      · have hj : j < k + 1 := hj
        show (ws.set k (m + k)).getD j 0 = _
        rw [getD_set (by omega)]
        split
        · rename_i e; rw [e]
        · exact hall j (by omega)
      · repeat' (first
          | exact trivial | exact rfl
          | exact le_ints rfl | refine And.intro ?_ ?_
          | exact Nat.le_of_ble_eq_true rfl | exact int_eq (by rw [IntWalk.i64_in _ (by omega)] <;> omega))
    · have e : k = zs.length := by omega
      subst e
      have e : ws = marks m zs.length := getD_ext (by rw [marks_length, hl]) fun j hj => by
        rw [marks_length] at hj
        rw [hall j hj, marks_getD hj]
      subst e
      exact retM (zs := zs) rfl
theorem mark_call {zs : List Int} {m : Int} {env : List AV} {rows : List Row} {ctr low τ ver n : Nat} {k : AV → St → Prop} (hr : rows[τ]? = some ⟨ver, 3, 1, zs.map (.int .i64)⟩) (hn : n = zs.length) (hpre : zs.length ≤ 1048576 ∧ 0 ≤ m ∧ m ≤ 1000000000000)
    (hk : k (.int .i64 (m + zs.length)) ⟨env, setRows rows [τ] [(marks m zs.length).map (.int .i64)], ctr + 1, low⟩) : CallG Tryz.prog 61 ⟨env, rows, ctr, low⟩ [.ref τ ver 0 n, .int .i64 m] k :=
  callM_in mark_sound (zs, m) hpre hr hn rfl hk
def sHeld : CSpec := fnS (ι := Nat × List Int × Int) (fun | (c, zs, m) => [.sl c zs.length (zs.map (.int .i64)), .int .i64 m]) (fun | (_, zs, m) => zs.length ≤ 1048576 ∧ 0 ≤ m ∧ m ≤ 1000000000000) (fun | (_, zs, m) => .int .i64 (if zs = marks m zs.length then m + zs.length else -1))
set_option maxRecDepth 10000 in
theorem held_sound : Sound Tryz.prog 62 sHeld := by
  refine sound_of Tryz.func62 rfl (enters_of Tryz.func62 (by kernel_rfl) (by kernel_rfl)) ?_
  rintro ⟨c, zs, m⟩ hpre
  have hpre : zs.length ≤ 1048576 ∧ 0 ≤ m ∧ m ≤ 1000000000000 := hpre
  conv => whnf
  repeat' (first
    | (refine append_same ?_; conv => whnf))
  refine loop_in (ι := Nat) (fun k => ⟨[.sl c zs.length (zs.map (.int .i64)), .int .i64 (m + k), .un, .un, .int .i64 0, .int .i64 k, .un, .un, .un, .un, .un, .un, .un, .un, .un, .un, .un, .un, .un, .un, .un], [], 1, 0⟩)
    (fun k => k ≤ zs.length ∧ ∀ j, j < k → zs.getD j 0 = m + j) (fun k => zs.length - k) 0 ⟨Nat.zero_le _, fun j hj => absurd hj (Nat.not_lt_zero _)⟩ ?_ ?_
  · repeat' (first
      | exact trivial | exact rfl
      | exact pureL_ints _ _ | refine And.intro ?_ ?_
      | exact Nat.le_of_ble_eq_true rfl | exact int_eq (by omega))
  · rintro k ⟨hk, hall⟩
    conv => whnf
    repeat' (first
      | ((first | refine fun (_ : _ ≤ maxLen) => ?_ | refine get_nat (by omega) ?_ | refine And.intro (by omega) ?_ | refine append_same ?_); conv => whnf) | refine aIf_not ?_
      | (refine aIf_dec (fun _ => ?_) (fun _ => ?_) <;> conv => whnf))
    · refine next_in (k + 1) (show zs.length - (k + 1) < zs.length - k by omega) ⟨by omega, fun j hj => ?_⟩ ?_
      · rcases Nat.lt_succ_iff_lt_or_eq.1 hj with h1 | rfl
        · exact hall j h1
        · assumption
      · repeat' (first
          | exact trivial | exact rfl
          | exact pureL_ints _ _ | refine And.intro ?_ ?_
          | exact Nat.le_of_ble_eq_true rfl | exact int_eq (by rw [IntWalk.i64_in _ (by omega)] <;> omega))
    · rename_i hne
      refine retS rfl (int_eq ?_)
      rw [if_neg]
      intro e
      apply hne
      have : zs.getD k 0 = (marks m zs.length).getD k 0 := congrArg (fun l => l.getD k 0) e
      rw [this, marks_getD (by omega)]
    · have e : k = zs.length := by omega
      subst e
      refine retS rfl (int_eq ?_)
      rw [if_pos]
      exact getD_ext (by rw [marks_length]) fun j hj => by
        rw [marks_length] at hj
        rw [hall j hj, marks_getD hj]
theorem held_call {c : Nat} {zs : List Int} {m : Int} {env : List AV} {rows : List Row} {ctr low : Nat} {k : AV → St → Prop} (hpre : zs.length ≤ 1048576 ∧ 0 ≤ m ∧ m ≤ 1000000000000) (h : k (.int .i64 (if zs = marks m zs.length then m + zs.length else -1)) ⟨env, rows, ctr + 1, low⟩) :
    CallB Tryz.prog 62 ⟨env, rows, ctr, low⟩ [.sl c zs.length (zs.map (.int .i64)), .int .i64 m] k := callS_in held_sound (c, zs, m) hpre rfl h
theorem held_marks_call {c n' : Nat} {n : Nat} {m : Int} {env : List AV} {rows : List Row} {ctr low : Nat} {k : AV → St → Prop} (hn : n' = n) (hpre : n ≤ 1048576 ∧ 0 ≤ m ∧ m ≤ 1000000000000) (h : k (.int .i64 (m + n)) ⟨env, rows, ctr + 1, low⟩) :
    CallB Tryz.prog 62 ⟨env, rows, ctr, low⟩ [.sl c n' ((marks m n).map (.int .i64)), .int .i64 m] k := by
  subst hn
  have := held_call (c := c) (zs := marks m n') (m := m) (env := env) (rows := rows) (ctr := ctr) (low := low) (k := k) (by rw [marks_length]; exact hpre) (by rw [marks_length, if_pos rfl]; exact h)
  rwa [marks_length] at this
theorem cut_marks {m : Int} {n : Nat} {k : List AV → Prop} {f : Nat} (hk : k ((marks m n).map (.int .i64))) : aCut (f + 1) ((marks m n).map (.int .i64)) 0 (n * 1) k := cut_all (by simp [marks_length]) (scalL_ints _ _) hk
end Go.Proofs.YtjmdhfjemaoebaaGreat
namespace Go.Proofs.YtjmdhfjemaoebaaGreat
set_option maxRecDepth 20000
open Go.RowKit Go.Am
attribute [local irreducible] aPlan aGet aIf aLoop aCall RetB NextB CallB CallG aCut aSet aAppend
def numOk (z : Int) : Bool := decide (-1000000000 ≤ z ∧ z ≤ 1000000000)
def tensorOk (xs zs : List Int) : Bool := shapeOk xs && (decide ((zs.length : Int) = cntTo xs xs.length) && zs.all numOk)
theorem tensorOk_iff (xs zs : List Int) : tensorOk xs zs = true ↔ shapeOk xs = true ∧ (zs.length : Int) = cntTo xs xs.length ∧ ∀ j, j < zs.length → -1000000000 ≤ zs.getD j 0 ∧ zs.getD j 0 ≤ 1000000000 := by
  unfold tensorOk
  rw [Bool.and_eq_true, Bool.and_eq_true, all_iff, decide_eq_true_iff]
  simp only [numOk, decide_eq_true_iff]
def sTensorOk : CSpec := fnS (ι := Nat × List Int × Nat × List Int) (fun | (c, xs, d, zs) => [.agg [.sl c xs.length (xs.map (.int .i64)), .sl d zs.length (zs.map (.int .i64))]]) (fun _ => True) (fun | (_, xs, _, zs) => .bool (tensorOk xs zs))
theorem tensorOk_t {xs zs : List Int} (h1 : shapeOk xs = true) (h2 : (zs.length : Int) = cntTo xs xs.length) (h3 : ∀ j, j < zs.length → -1000000000 ≤ zs.getD j 0 ∧ zs.getD j 0 ≤ 1000000000) : tensorOk xs zs = true := (tensorOk_iff _ _).2 ⟨h1, h2, h3⟩
theorem tensorOk_f1 {xs zs : List Int} (h : shapeOk xs = false) : tensorOk xs zs = false := by unfold tensorOk; rw [h]; rfl
theorem tensorOk_f2 {xs zs : List Int} (h : (zs.length : Int) ≠ cntTo xs xs.length) : tensorOk xs zs = false := by
  rw [← Bool.not_eq_true, tensorOk_iff]; exact fun h' => h h'.2.1
theorem tensorOk_f3 {xs zs : List Int} {k : Nat} (hk : k < zs.length) (h : ¬ (-1000000000 ≤ zs.getD k 0 ∧ zs.getD k 0 ≤ 1000000000)) : tensorOk xs zs = false := by
  rw [← Bool.not_eq_true, tensorOk_iff]; exact fun h' => h (h'.2.2 k hk)
theorem num_next {zs : List Int} {k : Nat} (h : ∀ j, j < k → -1000000000 ≤ zs.getD j 0 ∧ zs.getD j 0 ≤ 1000000000) (h' : -1000000000 ≤ zs.getD k 0 ∧ zs.getD k 0 ≤ 1000000000) : ∀ j, j < k + 1 → -1000000000 ≤ zs.getD j 0 ∧ zs.getD j 0 ≤ 1000000000 := fun j hj => by
  rcases Nat.lt_succ_iff_lt_or_eq.1 hj with h1 | rfl
  · exact h j h1
  · exact h'
set_option maxRecDepth 10000 in
theorem sTensorOk_sound : Sound Tryz.prog 55 sTensorOk := by
  refine sound_of Tryz.func55 rfl (enters_of Tryz.func55 (by kernel_rfl) (by kernel_rfl)) ?_
  rintro ⟨c, xs, d, zs⟩ -
  conv => whnf
  repeat' (first
    | ((first | refine plan_in (id := 1) [0, 1, 2, 3, 4, 5, 6, 7, 8, 9, 10, 11, 12] (by kernel_rfl) (by kernel_rfl) ?_ | refine aIf_t ?_ | refine aIf_f ?_ | refine fun (_ : _ ≤ maxLen) => ?_ | refine aGet_in rfl ?_ | refine And.intro rfl (And.intro (List.cons_ne_nil _ _) ?_) | refine append_same ?_ | refine And.intro (pureL_ints _ _) ?_ | refine sShapeOk_call ?_ | refine l1Count_call ?_); conv => whnf) | refine aIf_eqf ?_
    | refine aIf_not ?_ | (refine aIf_dec (fun _ => ?_) (fun _ => ?_) <;> conv => whnf)
    | (refine aIf_in (fun _ => ?_) (fun _ => ?_) <;> conv => whnf))
  · rename_i h1 _ h2
    refine loop_in (ι := Nat) (fun k => ⟨[.un, .ptr 0 1 0, .bool false, .int .i64 k, .un, .un, .un, .un, .un, .un, .un, .un, .un, .un, .un, .un, .un, .un, .un, .un, .un, .un, .un, .un, .un, .un, .un, .un, .un, .un, .un], [⟨1, 40, 2, [.sl c xs.length (xs.map (.int .i64)), .sl d zs.length (zs.map (.int .i64))]⟩], 4, 0⟩)
      (fun k => k ≤ zs.length ∧ ∀ j, j < k → -1000000000 ≤ zs.getD j 0 ∧ zs.getD j 0 ≤ 1000000000) (fun k => zs.length - k) 0 ⟨Nat.zero_le _, fun j hj => absurd hj (Nat.not_lt_zero _)⟩ ?_ ?_
    · repeat' (first
        | exact trivial | exact rfl
        | exact Or.inl (And.intro (pureL_pair _ _ _ _ _ _) rfl) | refine And.intro ?_ ?_
        | exact Nat.le_of_ble_eq_true rfl)
    · rintro k ⟨hk, hall⟩
      conv => whnf
      repeat' (first
        | ((first | refine plan_in (id := 1) [0, 1, 2, 3, 4, 5, 6, 7, 8, 9, 10, 11, 12] (by kernel_rfl) (by kernel_rfl) ?_ | refine fun (_ : _ ≤ maxLen) => ?_ | refine get_nat (by omega) ?_ | refine aGet_in rfl ?_ | refine And.intro (by omega) ?_ | refine callG_t ?_ | refine append_same ?_ | refine in_call ?_); conv => whnf) | refine aIf_not ?_
        | (refine aIf_dec (fun _ => ?_) (fun _ => ?_) <;> conv => whnf))
      · rename_i h3 h4
        refine next_in (k + 1) (by omega) ⟨by omega, num_next hall h4⟩ ?_
        have hmax : maxLen = 9223372036854775807 := rfl
        repeat' (first
          | exact trivial | exact rfl
          | exact Or.inl (And.intro (pureL_pair _ _ _ _ _ _) rfl) | refine And.intro ?_ ?_
          | exact Nat.le_of_ble_eq_true rfl | exact int_eq (by rw [IntWalk.i64_in _ (by omega)] <;> omega))
      · rename_i h3 h4
        exact retS rfl (congrArg AV.bool (tensorOk_f3 (k := k) (by omega) h4).symm)
      · exact retS rfl (congrArg AV.bool (tensorOk_t h1 h2 (fun j hj => hall j (by omega))).symm)
  · rename_i h
    exact retS rfl (congrArg AV.bool (tensorOk_f2 h).symm)
  · rename_i h
    exact retS rfl (congrArg AV.bool (tensorOk_f1 h).symm)
theorem cnt_count {xs : List Int} (h : shapeOk xs = true) : countOf xs = cntTo xs xs.length := if_pos h
theorem btw_num (zs : List Int) : btw zs (-1000000000) 1000000000 = zs.all numOk := rfl
set_option maxRecDepth 10000 in
theorem iTensorOk_sound : Sound Tryz.prog 71 sTensorOk := by
  refine sound_of Tryz.func71 rfl (enters_of Tryz.func71 (by kernel_rfl) (by kernel_rfl)) ?_
  rintro ⟨c, xs, d, zs⟩ -
  by_cases h : shapeOk xs = true ∧ (zs.length : Int) = cntTo xs xs.length
  · obtain ⟨h1, h2⟩ := h
    have hc := cnt_count h1
    have e : tensorOk xs zs = btw zs (-1000000000) 1000000000 := by unfold tensorOk; rw [h1, decide_eq_true h2, Bool.true_and, Bool.true_and, btw_num]
    conv => whnf
    repeat' (first
      | ((first | refine plan_in (id := 1) [0, 1, 2, 3, 4, 5, 6, 7, 8, 9, 10, 11, 12] (by kernel_rfl) (by kernel_rfl) ?_ | refine aIf_t ?_ | refine aIf_f ?_ | refine fun (_ : _ ≤ maxLen) => ?_ | refine aGet_in rfl ?_ | refine And.intro rfl (And.intro (List.cons_ne_nil _ _) ?_) | refine allBetween_call trivial ?_ | refine append_same ?_ | refine And.intro (pureL_ints _ _) ?_ | refine iCountOf_call ?_); conv => whnf) | refine aIf_eqt ?_
      | (refine aIf_dec (fun _ => ?_) (fun _ => ?_) <;> conv => whnf))
    all_goals (first | (exfalso; omega) | exact retS rfl (congrArg AV.bool e.symm))
  · have e : tensorOk xs zs = false := by
      rw [← Bool.not_eq_true, tensorOk_iff]; exact fun h' => h ⟨h'.1, h'.2.1⟩
    have hn : (zs.length : Int) ≠ countOf xs := by
      by_cases h1 : shapeOk xs = true
      · rw [cnt_count h1]; exact fun h' => h ⟨h1, h'⟩
      · have : countOf xs = -1 := if_neg h1
        rw [this]; omega
    conv => whnf
    repeat' (first
      | ((first | refine plan_in (id := 1) [0, 1, 2, 3, 4, 5, 6, 7, 8, 9, 10, 11, 12] (by kernel_rfl) (by kernel_rfl) ?_ | refine aIf_t ?_ | refine aIf_f ?_ | refine fun (_ : _ ≤ maxLen) => ?_ | refine aGet_in rfl ?_ | refine And.intro (by omega) ?_ | refine And.intro rfl (And.intro (List.cons_ne_nil _ _) ?_) | refine allBetween_call trivial ?_ | refine append_same ?_ | refine And.intro (pureL_ints _ _) ?_ | refine iCountOf_call ?_); conv => whnf) | refine aIf_eqt ?_
      | (refine aIf_dec (fun _ => ?_) (fun _ => ?_) <;> conv => whnf))
    all_goals (first | (exfalso; omega) | exact retS rfl (congrArg AV.bool e.symm))
theorem sTensorOk_call {c d : Nat} {xs zs : List Int} {env : List AV} {rows : List Row} {ctr low : Nat} {k : AV → St → Prop} (h : k (.bool (tensorOk xs zs)) ⟨env, rows, ctr + 1, low⟩) :
    CallB Tryz.prog 55 ⟨env, rows, ctr, low⟩ [.agg [.sl c xs.length (xs.map (.int .i64)), .sl d zs.length (zs.map (.int .i64))]] k := callS_in sTensorOk_sound (c, xs, d, zs) trivial rfl h
theorem iTensorOk_call {c d : Nat} {xs zs : List Int} {env : List AV} {rows : List Row} {ctr low : Nat} {k : AV → St → Prop} (h : k (.bool (tensorOk xs zs)) ⟨env, rows, ctr + 1, low⟩) :
    CallB Tryz.prog 71 ⟨env, rows, ctr, low⟩ [.agg [.sl c xs.length (xs.map (.int .i64)), .sl d zs.length (zs.map (.int .i64))]] k := callS_in iTensorOk_sound (c, xs, d, zs) trivial rfl h
end Go.Proofs.YtjmdhfjemaoebaaGreat
namespace Go.Proofs.YtjmdhfjemaoebaaGreat
set_option maxRecDepth 20000
open Go.RowKit Go.Am
attribute [local irreducible] aPlan aGet aIf aLoop aCall RetB NextB CallB CallG aCut aSet aAppend
abbrev leftOf (zs : List Int) (m : Int) (r : AV) (news : List Row) : Prop := ∃ n : Int, r = .int .i64 n ∧ news = [] ∧ (n < 0 ∨ (0 ≤ n ∧ n = m - zs.length))
set_option maxRecDepth 10000 in
theorem szIntS_sound : Sound Tryz.prog 63 (fnP (ι := Nat × List Int × Int) (fun | (c, zs, m) => [.sl c zs.length (zs.map (.int .i64)), .int .i64 m]) (fun | (_, _, m) => 0 ≤ m ∧ m ≤ 1048576) (fun | (_, zs, m) => leftOf zs m)) := by
  refine sound_of Tryz.func63 rfl (enters_of Tryz.func63 (by kernel_rfl) (by kernel_rfl)) ?_
  rintro ⟨c, zs, m⟩ hpre
  have hpre : 0 ≤ m ∧ m ≤ 1048576 := hpre
  have hmax : maxLen = 9223372036854775807 := rfl
  conv => whnf
  repeat' (first
    | ((first | refine fun (_ : _ ≤ maxLen) => ?_ | refine append_same ?_); conv => whnf) | (refine aIf_dec (fun _ => ?_) (fun _ => ?_) <;> conv => whnf))
  · exact retP1 (L := []) (by simp) rfl rfl ⟨_, rfl, rfl, .inl (by decide)⟩
  · rename_i h1 h2
    rw [IntWalk.i64_in (m - zs.length) (by omega)] at h2
    exact retP1 (L := []) (by simp) rfl rfl ⟨_, rfl, rfl, .inr (by rw [IntWalk.i64_in _ (by omega)]; omega)⟩
theorem szIntS_call {c : Nat} {zs : List Int} {m : Int} {env : List AV} {rows : List Row} {ctr low : Nat} {k : AV → St → Prop} (hpre : 0 ≤ m ∧ m ≤ 1048576) (hk : ∀ n : Int, (n < 0 ∨ (0 ≤ n ∧ n = m - zs.length)) → k (.int .i64 n) ⟨env, rows, ctr + 1, low⟩) :
    CallB Tryz.prog 63 ⟨env, rows, ctr, low⟩ [.sl c zs.length (zs.map (.int .i64)), .int .i64 m] k := callP_in szIntS_sound (c, zs, m) hpre (by
  rintro r news ⟨n, rfl, rfl, h⟩
  simpa [AV.back, St.news] using hk n h)
abbrev leftOf2 (xs zs : List Int) (m : Int) (r : AV) (news : List Row) : Prop := ∃ n : Int, r = .int .i64 n ∧ news = [] ∧ (n < 0 ∨ (0 ≤ n ∧ n = m - xs.length - zs.length))
set_option maxRecDepth 10000 in
theorem szTensor_sound : Sound Tryz.prog 24 (fnP (ι := Nat × List Int × Nat × List Int × Int) (fun | (c, xs, d, zs, m) => [.agg [.sl c xs.length (xs.map (.int .i64)), .sl d zs.length (zs.map (.int .i64))], .int .i64 m]) (fun | (_, _, _, _, m) => 0 ≤ m ∧ m ≤ 1048576) (fun | (_, xs, _, zs, m) => leftOf2 xs zs m)) := by
  refine sound_of Tryz.func24 rfl (enters_of Tryz.func24 (by kernel_rfl) (by kernel_rfl)) ?_
  rintro ⟨c, xs, d, zs, m⟩ hpre
  have hpre : 0 ≤ m ∧ m ≤ 1048576 := hpre
  conv => whnf
  repeat' (first
    | ((first | refine aGet_in rfl ?_ | refine And.intro rfl (And.intro (List.cons_ne_nil _ _) ?_) | refine callG_t ?_ | refine szIntS_call (by omega) (fun _ _ => ?_) | refine append_same ?_ | refine And.intro (pureL_ints _ _) ?_); conv => whnf) | (refine aIf_dec (fun _ => ?_) (fun _ => ?_) <;> conv => whnf))
  · exact retP1 (L := []) (by simp) rfl rfl ⟨_, rfl, rfl, .inl (by decide)⟩
  · exact retP1 (L := []) (by simp) rfl rfl ⟨_, rfl, rfl, .inl (by decide)⟩
  · rename_i n1 h1 h2 n2 h3 h4
    exact retP1 (L := []) (by simp) rfl rfl ⟨_, rfl, rfl, .inr (by omega)⟩
theorem szTensor_call {c d : Nat} {xs zs : List Int} {m : Int} {env : List AV} {rows : List Row} {ctr low : Nat} {k : AV → St → Prop} (hpre : 0 ≤ m ∧ m ≤ 1048576) (hk : ∀ n : Int, (n < 0 ∨ (0 ≤ n ∧ n = m - xs.length - zs.length)) → k (.int .i64 n) ⟨env, rows, ctr + 1, low⟩) :
    CallB Tryz.prog 24 ⟨env, rows, ctr, low⟩ [.agg [.sl c xs.length (xs.map (.int .i64)), .sl d zs.length (zs.map (.int .i64))], .int .i64 m] k := callP_in szTensor_sound (c, xs, d, zs, m) hpre (by
  rintro r news ⟨n, rfl, rfl, h⟩
  simpa [AV.back, St.news] using hk n h)
set_option maxRecDepth 10000 in
theorem toTensor_sound : Sound Tryz.prog 26 (fnT (ι := Nat × List Int × Nat × List Int) 3 (fun | (c, xs, d, zs) => [.agg [.sl c xs.length (xs.map (.int .i64)), .sl d zs.length (zs.map (.int .i64))]]) (fun | (_, xs, _, zs) => xs.length ≤ 1048576 ∧ zs.length ≤ 1048576) (fun | (_, xs, _, _) => xs) (fun | (_, _, _, zs) => zs)) := by
  refine sound_of Tryz.func26 rfl (enters_of Tryz.func26 (by kernel_rfl) (by kernel_rfl)) ?_
  rintro ⟨c, xs, d, zs⟩ hpre
  have hpre : xs.length ≤ 1048576 ∧ zs.length ≤ 1048576 := hpre
  conv => whnf
  repeat' (first
    | ((first | refine aGet_in rfl ?_ | refine load_same ?_ | refine And.intro rfl (And.intro (List.cons_ne_nil _ _) ?_) | refine And.intro (Nat.le_of_ble_eq_true rfl) ?_ | refine callG_t ?_ | refine append_same ?_ | refine takeN_in ?_ | refine And.intro (pureL_ints _ _) ?_ | refine toIntS_call (by omega) ?_ | refine set_force ?_ | refine And.intro (by kernel_rfl) ?_); conv => whnf))
  refine retT ?_ ?_ ?_ ?_ ?_
  all_goals (first | exact rfl | decide)
theorem toTensor_call {c d : Nat} {xs zs : List Int} {env : List AV} {rows : List Row} {ctr low : Nat} {k : AV → St → Prop} (hpre : xs.length ≤ 1048576 ∧ zs.length ≤ 1048576)
    (hk : k (.agg [.ref rows.length ctr 0 xs.length, .ref (rows.length + 1) ctr 0 zs.length]) ⟨env, rows ++ [⟨ctr, 3, 1, xs.map (.int .i64)⟩, ⟨ctr, 3, 1, zs.map (.int .i64)⟩], ctr + 1, low⟩) :
    CallB Tryz.prog 26 ⟨env, rows, ctr, low⟩ [.agg [.sl c xs.length (xs.map (.int .i64)), .sl d zs.length (zs.map (.int .i64))]] k := callT_in toTensor_sound (c, xs, d, zs) hpre hk
set_option maxRecDepth 10000 in
theorem eqTensor_sound : Sound Tryz.prog 19 (fnS (ι := (Nat × List Int × Nat × List Int) × (Nat × List Int × Nat × List Int)) (fun | ((c, xs, d, zs), (e, ys, f, ws)) => [.agg [.sl c xs.length (xs.map (.int .i64)), .sl d zs.length (zs.map (.int .i64))], .agg [.sl e ys.length (ys.map (.int .i64)), .sl f ws.length (ws.map (.int .i64))]]) (fun _ => True) (fun | ((_, xs, _, zs), (_, ys, _, ws)) => .bool (decide ((xs, zs) = (ys, ws))))) := by
  refine sound_of Tryz.func19 rfl (enters_of Tryz.func19 (by kernel_rfl) (by kernel_rfl)) ?_
  rintro ⟨⟨c, xs, d, zs⟩, ⟨e, ys, f, ws⟩⟩ -
  conv => whnf
  repeat' (first
    | ((first | refine aGet_in rfl ?_ | refine And.intro rfl (And.intro (List.cons_ne_nil _ _) ?_) | refine callG_t ?_ | refine append_same ?_ | refine And.intro (pureL_ints _ _) ?_ | refine eqIntS_call ?_); conv => whnf) | refine aIf_not ?_
    | (refine aIf_dec (fun _ => ?_) (fun _ => ?_) <;> conv => whnf))
  all_goals refine retS rfl (congrArg AV.bool ?_)
  all_goals simp_all
theorem eqTensor_call {c d e f : Nat} {xs zs ys ws : List Int} {env : List AV} {rows : List Row} {ctr low : Nat} {k : AV → St → Prop} (h : k (.bool (decide ((xs, zs) = (ys, ws)))) ⟨env, rows, ctr + 1, low⟩) :
    CallB Tryz.prog 19 ⟨env, rows, ctr, low⟩ [.agg [.sl c xs.length (xs.map (.int .i64)), .sl d zs.length (zs.map (.int .i64))], .agg [.sl e ys.length (ys.map (.int .i64)), .sl f ws.length (ws.map (.int .i64))]] k := callS_in eqTensor_sound ((c, xs, d, zs), (e, ys, f, ws)) trivial rfl h
def sMarkT : CSpec := fnMT (ι := List Int × List Int × Int) 3 (fun x => x.1) (fun x => x.2.1) (fun x => x.2.2) (fun x => x.1.length ≤ 1048576 ∧ x.2.1.length ≤ 1048576 ∧ 0 ≤ x.2.2 ∧ x.2.2 ≤ 100000000000) (fun x => x.2.2 + x.1.length + x.2.1.length) (fun x => marks x.2.2 x.1.length) (fun x => marks (x.2.2 + x.1.length) x.2.1.length)
set_option maxRecDepth 10000 in
theorem markTensor_sound : Sound Tryz.prog 22 sMarkT := by
  refine sound_of Tryz.func22 rfl (enters_of Tryz.func22 (by kernel_rfl) (by kernel_rfl)) ?_
  rintro ⟨xs, zs, m⟩ hpre
  have hpre : xs.length ≤ 1048576 ∧ zs.length ≤ 1048576 ∧ 0 ≤ m ∧ m ≤ 100000000000 := hpre
  conv => whnf
  dsimp only
  repeat' (first
    | ((first | refine aGet_in rfl ?_ | refine And.intro rfl (And.intro (List.cons_ne_nil _ _) ?_) | refine mark_call rfl (by rfl) (by omega) ?_ | refine append_same ?_); conv => whnf))
  exact retMT (xs := xs) (zs := zs) rfl
theorem markTensor_call {xs zs : List Int} {m : Int} {env : List AV} {rows : List Row} {ctr low τ1 τ2 v1 v2 n1 n2 : Nat} {k : AV → St → Prop} (h1 : rows[τ1]? = some ⟨v1, 3, 1, xs.map (.int .i64)⟩) (h2 : rows[τ2]? = some ⟨v2, 3, 1, zs.map (.int .i64)⟩) (hne : τ1 ≠ τ2) (e1 : n1 = xs.length) (e2 : n2 = zs.length)
    (hpre : xs.length ≤ 1048576 ∧ zs.length ≤ 1048576 ∧ 0 ≤ m ∧ m ≤ 100000000000)
    (hk : k (.int .i64 (m + xs.length + zs.length)) ⟨env, setRows rows [τ1, τ2] [(marks m xs.length).map (.int .i64), (marks (m + xs.length) zs.length).map (.int .i64)], ctr + 1, low⟩) :
    CallG Tryz.prog 22 ⟨env, rows, ctr, low⟩ [.agg [.ref τ1 v1 0 n1, .ref τ2 v2 0 n2], .int .i64 m] k := callMT_in markTensor_sound (xs, zs, m) hpre h1 h2 hne e1 e2 rfl hk
def sHeldT : CSpec := fnS (ι := Nat × Nat × Nat × Nat × Int) (fun | (c, n, d, n', m) => [.agg [.sl c n ((marks m n).map (.int .i64)), .sl d n' ((marks (m + n) n').map (.int .i64))], .int .i64 m]) (fun | (_, n, _, n', m) => n ≤ 1048576 ∧ n' ≤ 1048576 ∧ 0 ≤ m ∧ m ≤ 100000000000) (fun | (_, n, _, n', m) => .int .i64 (m + n + n'))
set_option maxRecDepth 10000 in
theorem heldTensor_sound : Sound Tryz.prog 23 sHeldT := by
  refine sound_of Tryz.func23 rfl (enters_of Tryz.func23 (by kernel_rfl) (by kernel_rfl)) ?_
  rintro ⟨c, n, d, n', m⟩ hpre
  have hpre : n ≤ 1048576 ∧ n' ≤ 1048576 ∧ 0 ≤ m ∧ m ≤ 100000000000 := hpre
  conv => whnf
  repeat' (first
    | ((first | refine aGet_in rfl ?_ | refine And.intro rfl (And.intro (List.cons_ne_nil _ _) ?_) | refine callG_t ?_ | refine append_same ?_ | refine And.intro (pureL_ints _ _) ?_ | refine held_marks_call rfl (by omega) ?_); conv => whnf) | (refine aIf_dec (fun _ => ?_) (fun _ => ?_) <;> conv => whnf))
  all_goals (first | (exfalso; omega) | skip)
  exact retS rfl rfl
theorem heldTensor_call {c d n n' k1 k2 : Nat} {m : Int} {env : List AV} {rows : List Row} {ctr low : Nat} {k : AV → St → Prop} (e1 : k1 = n) (e2 : k2 = n') (hpre : n ≤ 1048576 ∧ n' ≤ 1048576 ∧ 0 ≤ m ∧ m ≤ 100000000000) (h : k (.int .i64 (m + n + n')) ⟨env, rows, ctr + 1, low⟩) :
    CallB Tryz.prog 23 ⟨env, rows, ctr, low⟩ [.agg [.sl c k1 ((marks m n).map (.int .i64)), .sl d k2 ((marks (m + n) n').map (.int .i64))], .int .i64 m] k := by
  subst e1; subst e2
  exact callS_in heldTensor_sound (c, k1, d, k2, m) hpre rfl h
end Go.Proofs.YtjmdhfjemaoebaaGreat
namespace Go.Proofs.YtjmdhfjemaoebaaGreat
set_option maxRecDepth 20000
open Go.RowKit Go.Am
attribute [local irreducible] aPlan aGet aIf aLoop aCall RetB NextB CallB CallG aCut aSet
def placeOk (xs ps : List Int) : Bool := shapeOk xs && (decide (ps.length = xs.length) && (List.range xs.length).all fun j => decide (0 ≤ ps.getD j 0 ∧ ps.getD j 0 < xs.getD j 0))
def idxTo (xs ps : List Int) : Nat → Int
  | 0 => 0
  | k + 1 => IntKind.i64.wrap (IntKind.i64.wrap (idxTo xs ps k * xs.getD k 0) + ps.getD k 0)
def indexAt (xs ps : List Int) : Int := if placeOk xs ps = true then idxTo xs ps xs.length else -1
set_option maxRecDepth 10000 in
theorem l1Index_sound : Sound Tryz.prog 153 (fnS (ι := Nat × List Int × Nat × List Int) (fun | (c, xs, d, ps) => [.sl c xs.length (xs.map (.int .i64)), .sl d ps.length (ps.map (.int .i64))]) (fun | (_, xs, _, ps) => ps.length = xs.length) (fun | (_, xs, _, ps) => .int .i64 (idxTo xs ps xs.length))) := by
  refine sound_of Tryz.func153 rfl (enters_of Tryz.func153 (by kernel_rfl) (by kernel_rfl)) ?_
  rintro ⟨c, xs, d, ps⟩ hl
  have hl : ps.length = xs.length := hl
  conv => whnf
  repeat' (first
    | ((first | refine plan_in (id := 5) [0, 1, 2, 3, 4, 5, 6, 7, 8, 9, 10, 11] (by kernel_rfl) (by kernel_rfl) ?_ | refine append_same ?_); conv => whnf))
  refine loop_in (ι := Nat) (fun k => ⟨[.sl c xs.length (xs.map (.int .i64)), .sl d ps.length (ps.map (.int .i64)), .un, .un, .un, .int .i64 (idxTo xs ps k), .int .i64 k, .un, .un, .un, .un, .un, .un, .un, .un, .un, .un, .un, .un, .un, .un, .un, .un, .un, .un], [], 1, 0⟩)
    (fun k => k ≤ xs.length) (fun k => xs.length - k) 0 (Nat.zero_le _) ?_ ?_
  · repeat' (first
      | exact trivial | exact rfl
      | exact pureL_ints _ _ | refine And.intro ?_ ?_
      | exact Nat.le_of_ble_eq_true rfl)
  · intro k hk
    have hk : k ≤ xs.length := hk
    conv => whnf
    repeat' (first
      | ((first | refine plan_in (id := 5) [0, 1, 2, 3, 4, 5, 6, 7, 8, 9, 10, 11] (by kernel_rfl) (by kernel_rfl) ?_ | refine fun (_ : _ ≤ maxLen) => ?_ | refine get_nat (by omega) ?_ | refine And.intro (by omega) ?_ | refine append_same ?_); conv => whnf) | (refine aIf_dec (fun _ => ?_) (fun _ => ?_) <;> conv => whnf))
    · refine next_in (k + 1) (show xs.length - (k + 1) < xs.length - k by omega) (by omega) ?_
      have hmax : maxLen = 9223372036854775807 := rfl
      repeat' (first
        | exact trivial | exact rfl
        | exact pureL_ints _ _ | refine And.intro ?_ ?_
        | exact Nat.le_of_ble_eq_true rfl | exact int_eq (by rw [IntWalk.i64_in _ (by omega)] <;> omega))
    · have e : k = xs.length := by omega
      subst e
      exact retS rfl rfl
theorem l1Index_call {c d : Nat} {xs ps : List Int} {env : List AV} {rows : List Row} {ctr low : Nat} {k : AV → St → Prop} (hl : ps.length = xs.length) (h : k (.int .i64 (idxTo xs ps xs.length)) ⟨env, rows, ctr + 1, low⟩) :
    CallB Tryz.prog 153 ⟨env, rows, ctr, low⟩ [.sl c xs.length (xs.map (.int .i64)), .sl d ps.length (ps.map (.int .i64))] k := callS_in l1Index_sound (c, xs, d, ps) hl rfl h
end Go.Proofs.YtjmdhfjemaoebaaGreat
