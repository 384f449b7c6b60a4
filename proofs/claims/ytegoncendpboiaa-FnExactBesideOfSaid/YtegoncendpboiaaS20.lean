/- Chapter 2: lists without an axis; what is told of a tensor. -/
import Derived.Test.YtegoncendpboiaaS5
namespace Go.Proofs.Ytegoncendpboiaa
set_option maxRecDepth 20000
open Go.RowKit Go.Am
/-- Two rows of numbers are told as a tensor, if they are one. -/
def toldPost (t : TypeId) (xs zs : List Int) (r : AV) (ic : List (List AV)) (news : List Row) : Prop :=
  ic = [xs.map (.int .i64), zs.map (.int .i64)] ∧ ((tensorOk xs zs = true ∧ r = .tup [.agg [.ref 0 0 0 xs.length, .ref 1 0 0 zs.length], .bool true] ∧ news = []) ∨
    (tensorOk xs zs = false ∧ r = .tup [.agg [.ref 2 0 0 0, .ref 3 0 0 0], .bool false] ∧ news = [rowL t [], rowL t []]))
def sTold : CSpec := { ι := List Int × List Int, inout := [true], args := fun x => [.agg [.ref 0 0 0 x.1.length, .ref 1 0 0 x.2.length]], ins := fun x => [⟨0, 3, 1, x.1.map (.int .i64)⟩, ⟨0, 3, 1, x.2.map (.int .i64)⟩], pre := fun _ => True, post := fun x => toldPost 3 x.1 x.2 }
def sOrNone : CSpec := { ι := List Int × List Int, inout := [true, true], args := fun x => [.ref 0 0 0 x.1.length, .ref 1 0 0 x.2.length], ins := fun x => [⟨0, 3, 1, x.1.map (.int .i64)⟩, ⟨0, 3, 1, x.2.map (.int .i64)⟩], pre := fun _ => True, post := fun x => toldPost 3 x.1 x.2 }
theorem toldCall {f : FuncId} {sp : CSpec} {env : List AV} {rows : List Row} {ctr low τ1 τ2 v1 v2 : Nat} {args : List AV} {k : AV → St → Prop} (xs zs : List Int) (x : sp.ι) (hs : Sound Try.prog f sp) (hpre : sp.pre x) (hins : sp.ins x = [⟨0, 3, 1, xs.map (.int .i64)⟩, ⟨0, 3, 1, zs.map (.int .i64)⟩]) (hpost : sp.post x = toldPost 3 xs zs)
    (h1 : rows[τ1]? = some ⟨v1, 3, 1, xs.map (.int .i64)⟩) (h2 : rows[τ2]? = some ⟨v2, 3, 1, zs.map (.int .i64)⟩) (hne : τ1 ≠ τ2) (ha : callArgs ⟨env, rows, ctr, low⟩ [τ1, τ2] sp.inout args = some (sp.args x))
    (ht : tensorOk xs zs = true → k (.tup [.agg [.ref τ1 v1 0 xs.length, .ref τ2 v2 0 zs.length], .bool true]) ⟨env, setRows rows [τ1, τ2] [xs.map (.int .i64), zs.map (.int .i64)], ctr + 1, low⟩)
    (hf : tensorOk xs zs = false → k (.tup [.agg [.ref rows.length ctr 0 0, .ref (rows.length + 1) ctr 0 0], .bool false]) ⟨env, setRows rows [τ1, τ2] [xs.map (.int .i64), zs.map (.int .i64)] ++ [⟨ctr, 3, 1, []⟩, ⟨ctr, 3, 1, []⟩], ctr + 1, low⟩) :
    CallG Try.prog f ⟨env, rows, ctr, low⟩ args k := by
  refine .inr ⟨[τ1, τ2], sp, hs, sp.args x, _, by simpa using hne, ha, ?_, x, rfl, hins.symm, hpre, ?_⟩
  · simp [insOf, h1, h2, protL_ren (protL_ints .i64 xs), protL_ren (protL_ints .i64 zs)]
  · rw [hpost]
    rintro r ic news ⟨rfl, ⟨e, rfl, rfl⟩ | ⟨e, rfl, rfl⟩⟩ _
    · have := ht e
      simpa [St.after, St.news, AV.back, Go.Am.backL, backT, backV, verOf, h1, h2, protL_back (protL_ints .i64 xs), protL_back (protL_ints .i64 zs)] using this
    · have := hf e
      simpa [St.after, St.news, AV.back, Go.Am.backL, backT, backV, verOf, h1, h2, protL_back (protL_ints .i64 xs), protL_back (protL_ints .i64 zs), Nat.add_comm] using this
attribute [local irreducible] aPlan aGet aIf aLoop aCall RetB NextB CallB CallG aCut aSet aAppend

def wo (xs : List Int) (a : Nat) : List Int := xs.take a ++ xs.drop (a + 1)
theorem wo_length {xs : List Int} {a : Nat} (h : a < xs.length) : (wo xs a).length = xs.length - 1 := by simp [wo]; omega
theorem map_cut (xs : List Int) (l m : Nat) : ((xs.map (AV.int .i64)).drop l).take m = ((xs.drop l).take m).map (.int .i64) := by simp
theorem l2Nums_cut {c n : Nat} {zs : List Int} {cells : List AV} {env : List AV} {rows : List Row} {ctr low : Nat} {k : AV → St → Prop} (hc : cells = zs.map (.int .i64)) (hn : n = zs.length) (hpre : zs.length ≤ 1048576) (h : k (.ref rows.length ctr 0 zs.length) ⟨env, rows ++ [⟨ctr, 3, 1, zs.map (.int .i64)⟩], ctr + 1, low⟩) :
    CallB Try.prog 101 ⟨env, rows, ctr, low⟩ [.sl c n cells] k := by
  subst hc; subst hn; exact l2Nums_call hpre h
theorem copyNums_cut {c n : Nat} {zs : List Int} {cells : List AV} {env : List AV} {rows : List Row} {ctr low : Nat} {k : AV → St → Prop} (hc : cells = zs.map (.int .i64)) (hn : n = zs.length) (hpre : zs.length ≤ 1048576) (h : k (.ref rows.length ctr 0 zs.length) ⟨env, rows ++ [⟨ctr, 3, 1, zs.map (.int .i64)⟩], ctr + 1, low⟩) :
    CallB Try.prog 78 ⟨env, rows, ctr, low⟩ [.sl c n cells] k := by
  subst hc; subst hn; exact copyNums_call hpre h
set_option maxRecDepth 10000 in
theorem l2Without_sound : Sound Try.prog 122 (fnL (ι := Nat × List Int × Nat) 3 (fun | (c, xs, a) => [.sl c xs.length (xs.map (.int .i64)), .int .i64 a]) (fun | (_, xs, a) => xs.length ≤ 1048576 ∧ a < xs.length) (fun | (_, xs, a) => wo xs a)) := by
  refine sound_of Try.func122 rfl (enters_of Try.func122 (by kernel_rfl) (by kernel_rfl)) ?_
  rintro ⟨c, xs, a⟩ hpre
  have hpre : xs.length ≤ 1048576 ∧ a < xs.length := hpre
  have hw : IntKind.i64.wrap ((a : Int) + 1) = ((a + 1 : Nat) : Int) := (IntWalk.i64_in _ (by omega)).trans (by omega)
  have hmax : maxLen = 9223372036854775807 := rfl
  conv => whnf
  repeat' (first
    | (refine aIf_t ?_; conv => whnf)
    | (refine aIf_f ?_; conv => whnf)
    | (refine fun (_ : _ ≤ maxLen) => ?_; conv => whnf)
    | (refine get_nat0 (by omega) ?_; conv => whnf)
    | (refine get_int0 (by omega) ?_; conv => whnf)
    | (refine get_nat (by omega) ?_; conv => whnf)
    | (refine get_int (by omega) ?_; conv => whnf)
    | (refine aGet_in rfl ?_; conv => whnf)
    | (refine And.intro (And.intro (Int.le_refl _) (And.intro (by kernel_rfl) (And.intro rfl (by kernel_rfl)))) (And.intro (And.intro (by omega) (And.intro (bytes_le (b := 8) rfl (by omega)) (by omega))) ?_); conv => whnf)
    | (refine And.intro (by omega) ?_; conv => whnf)
    | (refine load_same ?_; conv => whnf)
    | (refine And.intro (by rw [List.length_map]; omega) ?_; conv => whnf)
    | (refine And.intro rfl (And.intro (List.cons_ne_nil _ _) ?_); conv => whnf)
    | (refine And.intro (Nat.le_of_ble_eq_true rfl) ?_; conv => whnf)
    | (refine callG_t ?_; conv => whnf)
    | (refine l2Nums_call (by omega) ?_; conv => whnf)
    | (refine And.intro (And.intro (Int.le_refl _) (And.intro (by kernel_rfl) (And.intro rfl (by kernel_rfl)))) (And.intro (And.intro (by omega) (And.intro (bytes_le (b := 24) rfl (by omega)) (by omega))) ?_); conv => whnf)
    | (refine And.intro (And.intro (Int.le_refl _) (And.intro (by kernel_rfl) (And.intro rfl (by kernel_rfl)))) (And.intro (And.intro (by omega) (And.intro (bytes_le (b := 48) rfl (by omega)) (by omega))) ?_); conv => whnf)
    | (refine takeN_in ?_; conv => whnf)
    | (refine And.intro (pureL_ints _ _) ?_; conv => whnf)
    | (refine And.intro (pureL_take _ _ _) ?_; conv => whnf)
    | (refine And.intro (pureL_cut _ _ _ _) ?_; conv => whnf)
    | (refine cut_ints ?_; conv => whnf)
    | (refine cut_marks ?_; conv => whnf)
    | (refine cut_all rfl (scalL_ints _ _) ?_; conv => whnf)
    | (refine cut_all (by simp only [List.length_map]; omega) (scalL_ints _ _) ?_; conv => whnf)
    | (refine append_int rfl rfl (by first | rfl | (simp only [List.length_take, turned_length]; omega)) (by omega) (Nat.le_of_ble_eq_true rfl) ?_; conv => whnf)
    | (refine And.intro rfl (And.intro rfl (And.intro (by first | omega | (rw [List.length_map]; omega)) ?_)); conv => whnf)
    | (refine set_nat ?_ (by omega); conv => whnf)
    | (refine set_int ?_ (by omega); conv => whnf)
    | (refine set_bool ?_ (by omega); conv => whnf)
    | (refine set_force ?_; conv => whnf)
    | (refine get_bool0 (by omega) ?_; conv => whnf)
    | (refine And.intro (And.intro (Int.le_refl _) (And.intro (by kernel_rfl) (And.intro rfl (by kernel_rfl)))) (And.intro (And.intro (by omega) (And.intro (bytes_le (b := 1) rfl (by omega)) (by omega))) ?_); conv => whnf)
    | (refine And.intro (And.intro (by kernel_rfl) (And.intro rfl (Nat.le_of_ble_eq_true rfl))) ?_; conv => whnf)
    | (refine And.intro (And.intro (by kernel_rfl) (by kernel_rfl)) ?_; conv => whnf)
    | (refine And.intro (by kernel_rfl) ?_; conv => whnf)
    | (refine aIf_tt (by assumption) ?_; conv => whnf)
    | (refine aIf_ff (by assumption) ?_; conv => whnf)
    | refine aIf_eqt ?_
    | refine aIf_eqf ?_
    | refine aIf_not ?_
    | (refine aIf_bself ?_; conv => whnf)
    | (refine aIf_beself ?_; conv => whnf)
    | (refine aIf_iself ?_; conv => whnf)
    | (refine aIf_decself ?_; conv => whnf)
    | (refine aIf_dec (fun _ => ?_) (fun _ => ?_) <;> conv => whnf)
    | (refine aIf_beq (fun _ => ?_) (fun _ => ?_) <;> conv => whnf)
    | (refine aIf_bne (fun _ => ?_) (fun _ => ?_) <;> conv => whnf)
    | (refine aIf_bbne (fun _ => ?_) (fun _ => ?_) <;> conv => whnf)
    | (refine aIf_bbeq (fun _ => ?_) (fun _ => ?_) <;> conv => whnf)
    | (refine aIf_in (fun _ => ?_) (fun _ => ?_) <;> conv => whnf))
  have ew : (IntKind.i64.wrap ((a : Int) + 1)).toNat = a + 1 := by omega
  refine l2Nums_cut (zs := xs.take a) (by simp [List.map_take]) (by simp; omega) (by simp; omega) ?_
  conv => whnf
  repeat' (first
    | (refine aIf_t ?_; conv => whnf)
    | (refine aIf_f ?_; conv => whnf)
    | (refine fun (_ : _ ≤ maxLen) => ?_; conv => whnf)
    | (refine get_nat0 (by omega) ?_; conv => whnf)
    | (refine get_int0 (by omega) ?_; conv => whnf)
    | (refine get_nat (by omega) ?_; conv => whnf)
    | (refine get_int (by omega) ?_; conv => whnf)
    | (refine aGet_in rfl ?_; conv => whnf)
    | (refine And.intro (And.intro (Int.le_refl _) (And.intro (by kernel_rfl) (And.intro rfl (by kernel_rfl)))) (And.intro (And.intro (by omega) (And.intro (bytes_le (b := 8) rfl (by omega)) (by omega))) ?_); conv => whnf)
    | (refine And.intro (by omega) ?_; conv => whnf)
    | (refine load_same ?_; conv => whnf)
    | (refine And.intro (by rw [List.length_map]; omega) ?_; conv => whnf)
    | (refine And.intro rfl (And.intro (List.cons_ne_nil _ _) ?_); conv => whnf)
    | (refine And.intro (Nat.le_of_ble_eq_true rfl) ?_; conv => whnf)
    | (refine callG_t ?_; conv => whnf)
    | (refine l2Nums_call (by omega) ?_; conv => whnf)
    | (refine And.intro (And.intro (Int.le_refl _) (And.intro (by kernel_rfl) (And.intro rfl (by kernel_rfl)))) (And.intro (And.intro (by omega) (And.intro (bytes_le (b := 24) rfl (by omega)) (by omega))) ?_); conv => whnf)
    | (refine And.intro (And.intro (Int.le_refl _) (And.intro (by kernel_rfl) (And.intro rfl (by kernel_rfl)))) (And.intro (And.intro (by omega) (And.intro (bytes_le (b := 48) rfl (by omega)) (by omega))) ?_); conv => whnf)
    | (refine takeN_in ?_; conv => whnf)
    | (refine And.intro (pureL_ints _ _) ?_; conv => whnf)
    | (refine And.intro (pureL_take _ _ _) ?_; conv => whnf)
    | (refine And.intro (pureL_cut _ _ _ _) ?_; conv => whnf)
    | (refine cut_ints ?_; conv => whnf)
    | (refine cut_marks ?_; conv => whnf)
    | (refine cut_all rfl (scalL_ints _ _) ?_; conv => whnf)
    | (refine cut_all (by simp only [List.length_map]; omega) (scalL_ints _ _) ?_; conv => whnf)
    | (refine append_int rfl rfl (by first | rfl | (simp only [List.length_take, turned_length]; omega)) (by omega) (Nat.le_of_ble_eq_true rfl) ?_; conv => whnf)
    | (refine And.intro rfl (And.intro rfl (And.intro (by first | omega | (rw [List.length_map]; omega)) ?_)); conv => whnf)
    | (refine set_nat ?_ (by omega); conv => whnf)
    | (refine set_int ?_ (by omega); conv => whnf)
    | (refine set_bool ?_ (by omega); conv => whnf)
    | (refine set_force ?_; conv => whnf)
    | (refine get_bool0 (by omega) ?_; conv => whnf)
    | (refine And.intro (And.intro (Int.le_refl _) (And.intro (by kernel_rfl) (And.intro rfl (by kernel_rfl)))) (And.intro (And.intro (by omega) (And.intro (bytes_le (b := 1) rfl (by omega)) (by omega))) ?_); conv => whnf)
    | (refine And.intro (And.intro (by kernel_rfl) (And.intro rfl (Nat.le_of_ble_eq_true rfl))) ?_; conv => whnf)
    | (refine And.intro (And.intro (by kernel_rfl) (by kernel_rfl)) ?_; conv => whnf)
    | (refine And.intro (by kernel_rfl) ?_; conv => whnf)
    | (refine aIf_tt (by assumption) ?_; conv => whnf)
    | (refine aIf_ff (by assumption) ?_; conv => whnf)
    | refine aIf_eqt ?_
    | refine aIf_eqf ?_
    | refine aIf_not ?_
    | (refine aIf_bself ?_; conv => whnf)
    | (refine aIf_beself ?_; conv => whnf)
    | (refine aIf_iself ?_; conv => whnf)
    | (refine aIf_decself ?_; conv => whnf)
    | (refine aIf_dec (fun _ => ?_) (fun _ => ?_) <;> conv => whnf)
    | (refine aIf_beq (fun _ => ?_) (fun _ => ?_) <;> conv => whnf)
    | (refine aIf_bne (fun _ => ?_) (fun _ => ?_) <;> conv => whnf)
    | (refine aIf_bbne (fun _ => ?_) (fun _ => ?_) <;> conv => whnf)
    | (refine aIf_bbeq (fun _ => ?_) (fun _ => ?_) <;> conv => whnf)
    | (refine aIf_in (fun _ => ?_) (fun _ => ?_) <;> conv => whnf))
  refine append_sl (zs := xs.take a) (ws := xs.drop (a + 1)) rfl (by rw [ew, Nat.mul_one, Nat.mul_one, List.take_of_length_le (by simp), List.map_drop]) (by rw [ew]; simp) rfl (by simp; omega) (Nat.zero_le _) (fun e => ?_) (fun _ => ?_)
  · have e' : wo xs a = xs.take a := by unfold wo; rw [e, List.append_nil]
    conv => whnf
    repeat' (first
      | (refine aIf_t ?_; conv => whnf)
      | (refine aIf_f ?_; conv => whnf)
      | (refine fun (_ : _ ≤ maxLen) => ?_; conv => whnf)
      | (refine get_nat0 (by omega) ?_; conv => whnf)
      | (refine get_int0 (by omega) ?_; conv => whnf)
      | (refine get_nat (by omega) ?_; conv => whnf)
      | (refine get_int (by omega) ?_; conv => whnf)
      | (refine aGet_in rfl ?_; conv => whnf)
      | (refine And.intro (And.intro (Int.le_refl _) (And.intro (by kernel_rfl) (And.intro rfl (by kernel_rfl)))) (And.intro (And.intro (by omega) (And.intro (bytes_le (b := 8) rfl (by omega)) (by omega))) ?_); conv => whnf)
      | (refine And.intro (by omega) ?_; conv => whnf)
      | (refine load_same ?_; conv => whnf)
      | (refine And.intro (by rw [List.length_map]; omega) ?_; conv => whnf)
      | (refine And.intro rfl (And.intro (List.cons_ne_nil _ _) ?_); conv => whnf)
      | (refine And.intro (Nat.le_of_ble_eq_true rfl) ?_; conv => whnf)
      | (refine callG_t ?_; conv => whnf)
      | (refine l2Nums_call (by omega) ?_; conv => whnf)
      | (refine And.intro (And.intro (Int.le_refl _) (And.intro (by kernel_rfl) (And.intro rfl (by kernel_rfl)))) (And.intro (And.intro (by omega) (And.intro (bytes_le (b := 24) rfl (by omega)) (by omega))) ?_); conv => whnf)
      | (refine And.intro (And.intro (Int.le_refl _) (And.intro (by kernel_rfl) (And.intro rfl (by kernel_rfl)))) (And.intro (And.intro (by omega) (And.intro (bytes_le (b := 48) rfl (by omega)) (by omega))) ?_); conv => whnf)
      | (refine takeN_in ?_; conv => whnf)
      | (refine And.intro (pureL_ints _ _) ?_; conv => whnf)
      | (refine And.intro (pureL_take _ _ _) ?_; conv => whnf)
      | (refine And.intro (pureL_cut _ _ _ _) ?_; conv => whnf)
      | (refine cut_ints ?_; conv => whnf)
      | (refine cut_marks ?_; conv => whnf)
      | (refine cut_all rfl (scalL_ints _ _) ?_; conv => whnf)
      | (refine cut_all (by simp only [List.length_map]; omega) (scalL_ints _ _) ?_; conv => whnf)
      | (refine append_int rfl rfl (by first | rfl | (simp only [List.length_take, turned_length]; omega)) (by omega) (Nat.le_of_ble_eq_true rfl) ?_; conv => whnf)
      | (refine And.intro rfl (And.intro rfl (And.intro (by first | omega | (rw [List.length_map]; omega)) ?_)); conv => whnf)
      | (refine set_nat ?_ (by omega); conv => whnf)
      | (refine set_int ?_ (by omega); conv => whnf)
      | (refine set_bool ?_ (by omega); conv => whnf)
      | (refine set_force ?_; conv => whnf)
      | (refine get_bool0 (by omega) ?_; conv => whnf)
      | (refine And.intro (And.intro (Int.le_refl _) (And.intro (by kernel_rfl) (And.intro rfl (by kernel_rfl)))) (And.intro (And.intro (by omega) (And.intro (bytes_le (b := 1) rfl (by omega)) (by omega))) ?_); conv => whnf)
      | (refine And.intro (And.intro (by kernel_rfl) (And.intro rfl (Nat.le_of_ble_eq_true rfl))) ?_; conv => whnf)
      | (refine And.intro (And.intro (by kernel_rfl) (by kernel_rfl)) ?_; conv => whnf)
      | (refine And.intro (by kernel_rfl) ?_; conv => whnf)
      | (refine aIf_tt (by assumption) ?_; conv => whnf)
      | (refine aIf_ff (by assumption) ?_; conv => whnf)
      | refine aIf_eqt ?_
      | refine aIf_eqf ?_
      | refine aIf_not ?_
      | (refine aIf_bself ?_; conv => whnf)
      | (refine aIf_beself ?_; conv => whnf)
      | (refine aIf_iself ?_; conv => whnf)
      | (refine aIf_decself ?_; conv => whnf)
      | (refine aIf_dec (fun _ => ?_) (fun _ => ?_) <;> conv => whnf)
      | (refine aIf_beq (fun _ => ?_) (fun _ => ?_) <;> conv => whnf)
      | (refine aIf_bne (fun _ => ?_) (fun _ => ?_) <;> conv => whnf)
      | (refine aIf_bbne (fun _ => ?_) (fun _ => ?_) <;> conv => whnf)
      | (refine aIf_bbeq (fun _ => ?_) (fun _ => ?_) <;> conv => whnf)
      | (refine aIf_in (fun _ => ?_) (fun _ => ?_) <;> conv => whnf))
    exact retL rfl rfl (by simp [e']) (by simp [e'])
  · have e' : wo xs a = xs.take a ++ xs.drop (a + 1) := rfl
    conv => whnf
    repeat' (first
      | (refine aIf_t ?_; conv => whnf)
      | (refine aIf_f ?_; conv => whnf)
      | (refine fun (_ : _ ≤ maxLen) => ?_; conv => whnf)
      | (refine get_nat0 (by omega) ?_; conv => whnf)
      | (refine get_int0 (by omega) ?_; conv => whnf)
      | (refine get_nat (by omega) ?_; conv => whnf)
      | (refine get_int (by omega) ?_; conv => whnf)
      | (refine aGet_in rfl ?_; conv => whnf)
      | (refine And.intro (And.intro (Int.le_refl _) (And.intro (by kernel_rfl) (And.intro rfl (by kernel_rfl)))) (And.intro (And.intro (by omega) (And.intro (bytes_le (b := 8) rfl (by omega)) (by omega))) ?_); conv => whnf)
      | (refine And.intro (by omega) ?_; conv => whnf)
      | (refine load_same ?_; conv => whnf)
      | (refine And.intro (by rw [List.length_map]; omega) ?_; conv => whnf)
      | (refine And.intro rfl (And.intro (List.cons_ne_nil _ _) ?_); conv => whnf)
      | (refine And.intro (Nat.le_of_ble_eq_true rfl) ?_; conv => whnf)
      | (refine callG_t ?_; conv => whnf)
      | (refine l2Nums_call (by omega) ?_; conv => whnf)
      | (refine And.intro (And.intro (Int.le_refl _) (And.intro (by kernel_rfl) (And.intro rfl (by kernel_rfl)))) (And.intro (And.intro (by omega) (And.intro (bytes_le (b := 24) rfl (by omega)) (by omega))) ?_); conv => whnf)
      | (refine And.intro (And.intro (Int.le_refl _) (And.intro (by kernel_rfl) (And.intro rfl (by kernel_rfl)))) (And.intro (And.intro (by omega) (And.intro (bytes_le (b := 48) rfl (by omega)) (by omega))) ?_); conv => whnf)
      | (refine takeN_in ?_; conv => whnf)
      | (refine And.intro (pureL_ints _ _) ?_; conv => whnf)
      | (refine And.intro (pureL_take _ _ _) ?_; conv => whnf)
      | (refine And.intro (pureL_cut _ _ _ _) ?_; conv => whnf)
      | (refine cut_ints ?_; conv => whnf)
      | (refine cut_marks ?_; conv => whnf)
      | (refine cut_all rfl (scalL_ints _ _) ?_; conv => whnf)
      | (refine cut_all (by simp only [List.length_map]; omega) (scalL_ints _ _) ?_; conv => whnf)
      | (refine append_int rfl rfl (by first | rfl | (simp only [List.length_take, turned_length]; omega)) (by omega) (Nat.le_of_ble_eq_true rfl) ?_; conv => whnf)
      | (refine And.intro rfl (And.intro rfl (And.intro (by first | omega | (rw [List.length_map]; omega)) ?_)); conv => whnf)
      | (refine set_nat ?_ (by omega); conv => whnf)
      | (refine set_int ?_ (by omega); conv => whnf)
      | (refine set_bool ?_ (by omega); conv => whnf)
      | (refine set_force ?_; conv => whnf)
      | (refine get_bool0 (by omega) ?_; conv => whnf)
      | (refine And.intro (And.intro (Int.le_refl _) (And.intro (by kernel_rfl) (And.intro rfl (by kernel_rfl)))) (And.intro (And.intro (by omega) (And.intro (bytes_le (b := 1) rfl (by omega)) (by omega))) ?_); conv => whnf)
      | (refine And.intro (And.intro (by kernel_rfl) (And.intro rfl (Nat.le_of_ble_eq_true rfl))) ?_; conv => whnf)
      | (refine And.intro (And.intro (by kernel_rfl) (by kernel_rfl)) ?_; conv => whnf)
      | (refine And.intro (by kernel_rfl) ?_; conv => whnf)
      | (refine aIf_tt (by assumption) ?_; conv => whnf)
      | (refine aIf_ff (by assumption) ?_; conv => whnf)
      | refine aIf_eqt ?_
      | refine aIf_eqf ?_
      | refine aIf_not ?_
      | (refine aIf_bself ?_; conv => whnf)
      | (refine aIf_beself ?_; conv => whnf)
      | (refine aIf_iself ?_; conv => whnf)
      | (refine aIf_decself ?_; conv => whnf)
      | (refine aIf_dec (fun _ => ?_) (fun _ => ?_) <;> conv => whnf)
      | (refine aIf_beq (fun _ => ?_) (fun _ => ?_) <;> conv => whnf)
      | (refine aIf_bne (fun _ => ?_) (fun _ => ?_) <;> conv => whnf)
      | (refine aIf_bbne (fun _ => ?_) (fun _ => ?_) <;> conv => whnf)
      | (refine aIf_bbeq (fun _ => ?_) (fun _ => ?_) <;> conv => whnf)
      | (refine aIf_in (fun _ => ?_) (fun _ => ?_) <;> conv => whnf))
    exact retL rfl rfl rfl (by rw [ew]; simp [e'])
theorem l2Without_call {c : Nat} {xs : List Int} {a : Nat} {env : List AV} {rows : List Row} {ctr low : Nat} {k : AV → St → Prop} (hpre : xs.length ≤ 1048576 ∧ a < xs.length) (h : k (.ref rows.length ctr 0 (wo xs a).length) ⟨env, rows ++ [⟨ctr, 3, 1, (wo xs a).map (.int .i64)⟩], ctr + 1, low⟩) :
    CallB Try.prog 122 ⟨env, rows, ctr, low⟩ [.sl c xs.length (xs.map (.int .i64)), .int .i64 a] k := callL_in l2Without_sound (c, xs, a) hpre h

set_option maxRecDepth 10000 in
theorem l2Told_sound : Sound Try.prog 83 sTold := by
  refine sound_of Try.func83 rfl (enters_of Try.func83 (by kernel_rfl) (by kernel_rfl)) ?_
  rintro ⟨xs, zs⟩ -
  rcases tensor_or xs zs with ⟨ht, hx, hz⟩ | ht
  · conv => whnf
    dsimp only
    repeat' (first
      | (refine aIf_t ?_; conv => whnf)
      | (refine aIf_f ?_; conv => whnf)
      | (refine fun (_ : _ ≤ maxLen) => ?_; conv => whnf)
      | (refine get_nat0 (by omega) ?_; conv => whnf)
      | (refine get_int0 (by omega) ?_; conv => whnf)
      | (refine get_nat (by omega) ?_; conv => whnf)
      | (refine get_int (by omega) ?_; conv => whnf)
      | (refine aGet_in rfl ?_; conv => whnf)
      | (refine And.intro (And.intro (Int.le_refl _) (And.intro (by kernel_rfl) (And.intro rfl (by kernel_rfl)))) (And.intro (And.intro (by omega) (And.intro (bytes_le (b := 8) rfl (by omega)) (by omega))) ?_); conv => whnf)
      | (refine And.intro (by omega) ?_; conv => whnf)
      | (refine load_same ?_; conv => whnf)
      | (refine And.intro (by rw [List.length_map]; omega) ?_; conv => whnf)
      | (refine And.intro rfl (And.intro (List.cons_ne_nil _ _) ?_); conv => whnf)
      | (refine And.intro (Nat.le_of_ble_eq_true rfl) ?_; conv => whnf)
      | (refine callG_t ?_; conv => whnf)
      | (refine sTensorOk_call ?_; conv => whnf)
      | (refine And.intro (And.intro (Int.le_refl _) (And.intro (by kernel_rfl) (And.intro rfl (by kernel_rfl)))) (And.intro (And.intro (by omega) (And.intro (bytes_le (b := 24) rfl (by omega)) (by omega))) ?_); conv => whnf)
      | (refine And.intro (And.intro (Int.le_refl _) (And.intro (by kernel_rfl) (And.intro rfl (by kernel_rfl)))) (And.intro (And.intro (by omega) (And.intro (bytes_le (b := 48) rfl (by omega)) (by omega))) ?_); conv => whnf)
      | (refine takeN_in ?_; conv => whnf)
      | (refine And.intro (pureL_ints _ _) ?_; conv => whnf)
      | (refine And.intro (pureL_take _ _ _) ?_; conv => whnf)
      | (refine And.intro (pureL_cut _ _ _ _) ?_; conv => whnf)
      | (refine cut_ints ?_; conv => whnf)
      | (refine cut_marks ?_; conv => whnf)
      | (refine cut_all rfl (scalL_ints _ _) ?_; conv => whnf)
      | (refine cut_all (by simp only [List.length_map]; omega) (scalL_ints _ _) ?_; conv => whnf)
      | (refine append_int rfl rfl (by first | rfl | (simp only [List.length_take, turned_length]; omega)) (by omega) (Nat.le_of_ble_eq_true rfl) ?_; conv => whnf)
      | (refine And.intro rfl (And.intro rfl (And.intro (by first | omega | (rw [List.length_map]; omega)) ?_)); conv => whnf)
      | (refine set_nat ?_ (by omega); conv => whnf)
      | (refine set_int ?_ (by omega); conv => whnf)
      | (refine set_bool ?_ (by omega); conv => whnf)
      | (refine set_force ?_; conv => whnf)
      | (refine get_bool0 (by omega) ?_; conv => whnf)
      | (refine And.intro (And.intro (Int.le_refl _) (And.intro (by kernel_rfl) (And.intro rfl (by kernel_rfl)))) (And.intro (And.intro (by omega) (And.intro (bytes_le (b := 1) rfl (by omega)) (by omega))) ?_); conv => whnf)
      | (refine And.intro (And.intro (by kernel_rfl) (And.intro rfl (Nat.le_of_ble_eq_true rfl))) ?_; conv => whnf)
      | (refine And.intro (And.intro (by kernel_rfl) (by kernel_rfl)) ?_; conv => whnf)
      | (refine And.intro (by kernel_rfl) ?_; conv => whnf)
      | (refine aIf_tt (by assumption) ?_; conv => whnf)
      | (refine aIf_ff (by assumption) ?_; conv => whnf)
      | refine aIf_eqt ?_
      | refine aIf_eqf ?_
      | refine aIf_not ?_
      | (refine aIf_bself ?_; conv => whnf)
      | (refine aIf_beself ?_; conv => whnf)
      | (refine aIf_iself ?_; conv => whnf)
      | (refine aIf_decself ?_; conv => whnf)
      | (refine aIf_dec (fun _ => ?_) (fun _ => ?_) <;> conv => whnf)
      | (refine aIf_beq (fun _ => ?_) (fun _ => ?_) <;> conv => whnf)
      | (refine aIf_bne (fun _ => ?_) (fun _ => ?_) <;> conv => whnf)
      | (refine aIf_bbne (fun _ => ?_) (fun _ => ?_) <;> conv => whnf)
      | (refine aIf_bbeq (fun _ => ?_) (fun _ => ?_) <;> conv => whnf)
      | (refine aIf_in (fun _ => ?_) (fun _ => ?_) <;> conv => whnf))
    exact retKeep2 (xs := xs) (zs := zs) ⟨rfl, .inl ⟨ht, rfl, rfl⟩⟩
  · conv => whnf
    dsimp only
    repeat' (first
      | (refine aIf_t ?_; conv => whnf)
      | (refine aIf_f ?_; conv => whnf)
      | (refine fun (_ : _ ≤ maxLen) => ?_; conv => whnf)
      | (refine get_nat0 (by omega) ?_; conv => whnf)
      | (refine get_int0 (by omega) ?_; conv => whnf)
      | (refine get_nat (by omega) ?_; conv => whnf)
      | (refine get_int (by omega) ?_; conv => whnf)
      | (refine aGet_in rfl ?_; conv => whnf)
      | (refine And.intro (And.intro (Int.le_refl _) (And.intro (by kernel_rfl) (And.intro rfl (by kernel_rfl)))) (And.intro (And.intro (by omega) (And.intro (bytes_le (b := 8) rfl (by omega)) (by omega))) ?_); conv => whnf)
      | (refine And.intro (by omega) ?_; conv => whnf)
      | (refine load_same ?_; conv => whnf)
      | (refine And.intro (by rw [List.length_map]; omega) ?_; conv => whnf)
      | (refine And.intro rfl (And.intro (List.cons_ne_nil _ _) ?_); conv => whnf)
      | (refine And.intro (Nat.le_of_ble_eq_true rfl) ?_; conv => whnf)
      | (refine callG_t ?_; conv => whnf)
      | (refine sTensorOk_call ?_; conv => whnf)
      | (refine And.intro (And.intro (Int.le_refl _) (And.intro (by kernel_rfl) (And.intro rfl (by kernel_rfl)))) (And.intro (And.intro (by omega) (And.intro (bytes_le (b := 24) rfl (by omega)) (by omega))) ?_); conv => whnf)
      | (refine And.intro (And.intro (Int.le_refl _) (And.intro (by kernel_rfl) (And.intro rfl (by kernel_rfl)))) (And.intro (And.intro (by omega) (And.intro (bytes_le (b := 48) rfl (by omega)) (by omega))) ?_); conv => whnf)
      | (refine takeN_in ?_; conv => whnf)
      | (refine And.intro (pureL_ints _ _) ?_; conv => whnf)
      | (refine And.intro (pureL_take _ _ _) ?_; conv => whnf)
      | (refine And.intro (pureL_cut _ _ _ _) ?_; conv => whnf)
      | (refine cut_ints ?_; conv => whnf)
      | (refine cut_marks ?_; conv => whnf)
      | (refine cut_all rfl (scalL_ints _ _) ?_; conv => whnf)
      | (refine cut_all (by simp only [List.length_map]; omega) (scalL_ints _ _) ?_; conv => whnf)
      | (refine append_int rfl rfl (by first | rfl | (simp only [List.length_take, turned_length]; omega)) (by omega) (Nat.le_of_ble_eq_true rfl) ?_; conv => whnf)
      | (refine And.intro rfl (And.intro rfl (And.intro (by first | omega | (rw [List.length_map]; omega)) ?_)); conv => whnf)
      | (refine set_nat ?_ (by omega); conv => whnf)
      | (refine set_int ?_ (by omega); conv => whnf)
      | (refine set_bool ?_ (by omega); conv => whnf)
      | (refine set_force ?_; conv => whnf)
      | (refine get_bool0 (by omega) ?_; conv => whnf)
      | (refine And.intro (And.intro (Int.le_refl _) (And.intro (by kernel_rfl) (And.intro rfl (by kernel_rfl)))) (And.intro (And.intro (by omega) (And.intro (bytes_le (b := 1) rfl (by omega)) (by omega))) ?_); conv => whnf)
      | (refine And.intro (And.intro (by kernel_rfl) (And.intro rfl (Nat.le_of_ble_eq_true rfl))) ?_; conv => whnf)
      | (refine And.intro (And.intro (by kernel_rfl) (by kernel_rfl)) ?_; conv => whnf)
      | (refine And.intro (by kernel_rfl) ?_; conv => whnf)
      | (refine aIf_tt (by assumption) ?_; conv => whnf)
      | (refine aIf_ff (by assumption) ?_; conv => whnf)
      | refine aIf_eqt ?_
      | refine aIf_eqf ?_
      | refine aIf_not ?_
      | (refine aIf_bself ?_; conv => whnf)
      | (refine aIf_beself ?_; conv => whnf)
      | (refine aIf_iself ?_; conv => whnf)
      | (refine aIf_decself ?_; conv => whnf)
      | (refine aIf_dec (fun _ => ?_) (fun _ => ?_) <;> conv => whnf)
      | (refine aIf_beq (fun _ => ?_) (fun _ => ?_) <;> conv => whnf)
      | (refine aIf_bne (fun _ => ?_) (fun _ => ?_) <;> conv => whnf)
      | (refine aIf_bbne (fun _ => ?_) (fun _ => ?_) <;> conv => whnf)
      | (refine aIf_bbeq (fun _ => ?_) (fun _ => ?_) <;> conv => whnf)
      | (refine aIf_in (fun _ => ?_) (fun _ => ?_) <;> conv => whnf))
    refine retNew2 (xs := xs) (zs := zs) (ps := []) (qs := []) ?_ ?_ ?_ ⟨rfl, .inr ⟨ht, rfl, rfl⟩⟩
    all_goals (first | exact rfl | decide)
set_option maxRecDepth 10000 in
theorem orNone_sound : Sound Try.prog 81 sOrNone := by
  refine sound_of Try.func81 rfl (enters_of Try.func81 (by kernel_rfl) (by kernel_rfl)) ?_
  rintro ⟨xs, zs⟩ -
  rcases tensor_or xs zs with ⟨ht, hx, hz⟩ | ht
  · conv => whnf
    dsimp only
    repeat' (first
      | (refine aIf_t ?_; conv => whnf)
      | (refine aIf_f ?_; conv => whnf)
      | (refine fun (_ : _ ≤ maxLen) => ?_; conv => whnf)
      | (refine get_nat0 (by omega) ?_; conv => whnf)
      | (refine get_int0 (by omega) ?_; conv => whnf)
      | (refine get_nat (by omega) ?_; conv => whnf)
      | (refine get_int (by omega) ?_; conv => whnf)
      | (refine aGet_in rfl ?_; conv => whnf)
      | (refine And.intro (And.intro (Int.le_refl _) (And.intro (by kernel_rfl) (And.intro rfl (by kernel_rfl)))) (And.intro (And.intro (by omega) (And.intro (bytes_le (b := 8) rfl (by omega)) (by omega))) ?_); conv => whnf)
      | (refine And.intro (by omega) ?_; conv => whnf)
      | (refine load_same ?_; conv => whnf)
      | (refine And.intro (by rw [List.length_map]; omega) ?_; conv => whnf)
      | (refine And.intro rfl (And.intro (List.cons_ne_nil _ _) ?_); conv => whnf)
      | (refine And.intro (Nat.le_of_ble_eq_true rfl) ?_; conv => whnf)
      | (refine callG_t ?_; conv => whnf)
      | (refine iTensorOk_call ?_; conv => whnf)
      | (refine And.intro (And.intro (Int.le_refl _) (And.intro (by kernel_rfl) (And.intro rfl (by kernel_rfl)))) (And.intro (And.intro (by omega) (And.intro (bytes_le (b := 24) rfl (by omega)) (by omega))) ?_); conv => whnf)
      | (refine And.intro (And.intro (Int.le_refl _) (And.intro (by kernel_rfl) (And.intro rfl (by kernel_rfl)))) (And.intro (And.intro (by omega) (And.intro (bytes_le (b := 48) rfl (by omega)) (by omega))) ?_); conv => whnf)
      | (refine takeN_in ?_; conv => whnf)
      | (refine And.intro (pureL_ints _ _) ?_; conv => whnf)
      | (refine And.intro (pureL_take _ _ _) ?_; conv => whnf)
      | (refine And.intro (pureL_cut _ _ _ _) ?_; conv => whnf)
      | (refine cut_ints ?_; conv => whnf)
      | (refine cut_marks ?_; conv => whnf)
      | (refine cut_all rfl (scalL_ints _ _) ?_; conv => whnf)
      | (refine cut_all (by simp only [List.length_map]; omega) (scalL_ints _ _) ?_; conv => whnf)
      | (refine append_int rfl rfl (by first | rfl | (simp only [List.length_take, turned_length]; omega)) (by omega) (Nat.le_of_ble_eq_true rfl) ?_; conv => whnf)
      | (refine And.intro rfl (And.intro rfl (And.intro (by first | omega | (rw [List.length_map]; omega)) ?_)); conv => whnf)
      | (refine set_nat ?_ (by omega); conv => whnf)
      | (refine set_int ?_ (by omega); conv => whnf)
      | (refine set_bool ?_ (by omega); conv => whnf)
      | (refine set_force ?_; conv => whnf)
      | (refine get_bool0 (by omega) ?_; conv => whnf)
      | (refine And.intro (And.intro (Int.le_refl _) (And.intro (by kernel_rfl) (And.intro rfl (by kernel_rfl)))) (And.intro (And.intro (by omega) (And.intro (bytes_le (b := 1) rfl (by omega)) (by omega))) ?_); conv => whnf)
      | (refine And.intro (And.intro (by kernel_rfl) (And.intro rfl (Nat.le_of_ble_eq_true rfl))) ?_; conv => whnf)
      | (refine And.intro (And.intro (by kernel_rfl) (by kernel_rfl)) ?_; conv => whnf)
      | (refine And.intro (by kernel_rfl) ?_; conv => whnf)
      | (refine aIf_tt (by assumption) ?_; conv => whnf)
      | (refine aIf_ff (by assumption) ?_; conv => whnf)
      | refine aIf_eqt ?_
      | refine aIf_eqf ?_
      | refine aIf_not ?_
      | (refine aIf_bself ?_; conv => whnf)
      | (refine aIf_beself ?_; conv => whnf)
      | (refine aIf_iself ?_; conv => whnf)
      | (refine aIf_decself ?_; conv => whnf)
      | (refine aIf_dec (fun _ => ?_) (fun _ => ?_) <;> conv => whnf)
      | (refine aIf_beq (fun _ => ?_) (fun _ => ?_) <;> conv => whnf)
      | (refine aIf_bne (fun _ => ?_) (fun _ => ?_) <;> conv => whnf)
      | (refine aIf_bbne (fun _ => ?_) (fun _ => ?_) <;> conv => whnf)
      | (refine aIf_bbeq (fun _ => ?_) (fun _ => ?_) <;> conv => whnf)
      | (refine aIf_in (fun _ => ?_) (fun _ => ?_) <;> conv => whnf))
    exact retKeep2 (xs := xs) (zs := zs) ⟨rfl, .inl ⟨ht, rfl, rfl⟩⟩
  · conv => whnf
    dsimp only
    repeat' (first
      | (refine aIf_t ?_; conv => whnf)
      | (refine aIf_f ?_; conv => whnf)
      | (refine fun (_ : _ ≤ maxLen) => ?_; conv => whnf)
      | (refine get_nat0 (by omega) ?_; conv => whnf)
      | (refine get_int0 (by omega) ?_; conv => whnf)
      | (refine get_nat (by omega) ?_; conv => whnf)
      | (refine get_int (by omega) ?_; conv => whnf)
      | (refine aGet_in rfl ?_; conv => whnf)
      | (refine And.intro (And.intro (Int.le_refl _) (And.intro (by kernel_rfl) (And.intro rfl (by kernel_rfl)))) (And.intro (And.intro (by omega) (And.intro (bytes_le (b := 8) rfl (by omega)) (by omega))) ?_); conv => whnf)
      | (refine And.intro (by omega) ?_; conv => whnf)
      | (refine load_same ?_; conv => whnf)
      | (refine And.intro (by rw [List.length_map]; omega) ?_; conv => whnf)
      | (refine And.intro rfl (And.intro (List.cons_ne_nil _ _) ?_); conv => whnf)
      | (refine And.intro (Nat.le_of_ble_eq_true rfl) ?_; conv => whnf)
      | (refine callG_t ?_; conv => whnf)
      | (refine iTensorOk_call ?_; conv => whnf)
      | (refine And.intro (And.intro (Int.le_refl _) (And.intro (by kernel_rfl) (And.intro rfl (by kernel_rfl)))) (And.intro (And.intro (by omega) (And.intro (bytes_le (b := 24) rfl (by omega)) (by omega))) ?_); conv => whnf)
      | (refine And.intro (And.intro (Int.le_refl _) (And.intro (by kernel_rfl) (And.intro rfl (by kernel_rfl)))) (And.intro (And.intro (by omega) (And.intro (bytes_le (b := 48) rfl (by omega)) (by omega))) ?_); conv => whnf)
      | (refine takeN_in ?_; conv => whnf)
      | (refine And.intro (pureL_ints _ _) ?_; conv => whnf)
      | (refine And.intro (pureL_take _ _ _) ?_; conv => whnf)
      | (refine And.intro (pureL_cut _ _ _ _) ?_; conv => whnf)
      | (refine cut_ints ?_; conv => whnf)
      | (refine cut_marks ?_; conv => whnf)
      | (refine cut_all rfl (scalL_ints _ _) ?_; conv => whnf)
      | (refine cut_all (by simp only [List.length_map]; omega) (scalL_ints _ _) ?_; conv => whnf)
      | (refine append_int rfl rfl (by first | rfl | (simp only [List.length_take, turned_length]; omega)) (by omega) (Nat.le_of_ble_eq_true rfl) ?_; conv => whnf)
      | (refine And.intro rfl (And.intro rfl (And.intro (by first | omega | (rw [List.length_map]; omega)) ?_)); conv => whnf)
      | (refine set_nat ?_ (by omega); conv => whnf)
      | (refine set_int ?_ (by omega); conv => whnf)
      | (refine set_bool ?_ (by omega); conv => whnf)
      | (refine set_force ?_; conv => whnf)
      | (refine get_bool0 (by omega) ?_; conv => whnf)
      | (refine And.intro (And.intro (Int.le_refl _) (And.intro (by kernel_rfl) (And.intro rfl (by kernel_rfl)))) (And.intro (And.intro (by omega) (And.intro (bytes_le (b := 1) rfl (by omega)) (by omega))) ?_); conv => whnf)
      | (refine And.intro (And.intro (by kernel_rfl) (And.intro rfl (Nat.le_of_ble_eq_true rfl))) ?_; conv => whnf)
      | (refine And.intro (And.intro (by kernel_rfl) (by kernel_rfl)) ?_; conv => whnf)
      | (refine And.intro (by kernel_rfl) ?_; conv => whnf)
      | (refine aIf_tt (by assumption) ?_; conv => whnf)
      | (refine aIf_ff (by assumption) ?_; conv => whnf)
      | refine aIf_eqt ?_
      | refine aIf_eqf ?_
      | refine aIf_not ?_
      | (refine aIf_bself ?_; conv => whnf)
      | (refine aIf_beself ?_; conv => whnf)
      | (refine aIf_iself ?_; conv => whnf)
      | (refine aIf_decself ?_; conv => whnf)
      | (refine aIf_dec (fun _ => ?_) (fun _ => ?_) <;> conv => whnf)
      | (refine aIf_beq (fun _ => ?_) (fun _ => ?_) <;> conv => whnf)
      | (refine aIf_bne (fun _ => ?_) (fun _ => ?_) <;> conv => whnf)
      | (refine aIf_bbne (fun _ => ?_) (fun _ => ?_) <;> conv => whnf)
      | (refine aIf_bbeq (fun _ => ?_) (fun _ => ?_) <;> conv => whnf)
      | (refine aIf_in (fun _ => ?_) (fun _ => ?_) <;> conv => whnf))
    refine retNew2 (xs := xs) (zs := zs) (ps := []) (qs := []) ?_ ?_ ?_ ⟨rfl, .inr ⟨ht, rfl, rfl⟩⟩
    all_goals (first | exact rfl | decide)

theorem orNone_call {env : List AV} {rows : List Row} {ctr low τ1 τ2 v1 v2 n1 n2 : Nat} {k : AV → St → Prop} (xs zs : List Int)
    (h1 : rows[τ1]? = some ⟨v1, 3, 1, xs.map (.int .i64)⟩) (h2 : rows[τ2]? = some ⟨v2, 3, 1, zs.map (.int .i64)⟩) (hne : τ1 ≠ τ2) (e1 : n1 = xs.length) (e2 : n2 = zs.length)
    (ht : tensorOk xs zs = true → k (.tup [.agg [.ref τ1 v1 0 xs.length, .ref τ2 v2 0 zs.length], .bool true]) ⟨env, setRows rows [τ1, τ2] [xs.map (.int .i64), zs.map (.int .i64)], ctr + 1, low⟩)
    (hf : tensorOk xs zs = false → k (.tup [.agg [.ref rows.length ctr 0 0, .ref (rows.length + 1) ctr 0 0], .bool false]) ⟨env, setRows rows [τ1, τ2] [xs.map (.int .i64), zs.map (.int .i64)] ++ [⟨ctr, 3, 1, []⟩, ⟨ctr, 3, 1, []⟩], ctr + 1, low⟩) :
    CallG Try.prog 81 ⟨env, rows, ctr, low⟩ [.ref τ1 v1 0 n1, .ref τ2 v2 0 n2] k := by
  subst e1; subst e2
  refine toldCall xs zs (sp := sOrNone) (xs, zs) orNone_sound trivial rfl rfl h1 h2 hne ?_ ht hf
  have hb : (τ1 == τ2) = false := by simpa using hne
  have a1 : callArg ⟨env, rows, ctr, low⟩ [τ1, τ2] true (.ref τ1 v1 0 xs.length) = some (.ref 0 0 0 xs.length) := by simp [callArg, AV.ren, h1, List.idxOf, List.findIdx_cons]
  have a2 : callArg ⟨env, rows, ctr, low⟩ [τ1, τ2] true (.ref τ2 v2 0 zs.length) = some (.ref 1 0 0 zs.length) := by simp [callArg, AV.ren, h2, List.idxOf, List.findIdx_cons, hb]
  show (callArg ⟨env, rows, ctr, low⟩ [τ1, τ2] true (.ref τ1 v1 0 xs.length)).bind (fun u' => ((callArg ⟨env, rows, ctr, low⟩ [τ1, τ2] true (.ref τ2 v2 0 zs.length)).bind fun u'' => some [u'']).map (u' :: ·)) = _
  rw [a1, a2]
  rfl
theorem l2Told_call {env : List AV} {rows : List Row} {ctr low τ1 τ2 v1 v2 n1 n2 : Nat} {k : AV → St → Prop} (xs zs : List Int)
    (h1 : rows[τ1]? = some ⟨v1, 3, 1, xs.map (.int .i64)⟩) (h2 : rows[τ2]? = some ⟨v2, 3, 1, zs.map (.int .i64)⟩) (hne : τ1 ≠ τ2) (e1 : n1 = xs.length) (e2 : n2 = zs.length)
    (ht : tensorOk xs zs = true → k (.tup [.agg [.ref τ1 v1 0 xs.length, .ref τ2 v2 0 zs.length], .bool true]) ⟨env, setRows rows [τ1, τ2] [xs.map (.int .i64), zs.map (.int .i64)], ctr + 1, low⟩)
    (hf : tensorOk xs zs = false → k (.tup [.agg [.ref rows.length ctr 0 0, .ref (rows.length + 1) ctr 0 0], .bool false]) ⟨env, setRows rows [τ1, τ2] [xs.map (.int .i64), zs.map (.int .i64)] ++ [⟨ctr, 3, 1, []⟩, ⟨ctr, 3, 1, []⟩], ctr + 1, low⟩) :
    CallG Try.prog 83 ⟨env, rows, ctr, low⟩ [.agg [.ref τ1 v1 0 n1, .ref τ2 v2 0 n2]] k := by
  subst e1; subst e2
  refine toldCall xs zs (sp := sTold) (xs, zs) l2Told_sound trivial rfl rfl h1 h2 hne ?_ ht hf
  have hb : (τ1 == τ2) = false := by simpa using hne
  have a1 : callArg ⟨env, rows, ctr, low⟩ [τ1, τ2] true (.agg [.ref τ1 v1 0 xs.length, .ref τ2 v2 0 zs.length]) = some (.agg [.ref 0 0 0 xs.length, .ref 1 0 0 zs.length]) := by simp [callArg, AV.ren, Go.Am.renL, h1, h2, List.idxOf, List.findIdx_cons, hb]
  show (callArg ⟨env, rows, ctr, low⟩ [τ1, τ2] true (.agg [.ref τ1 v1 0 xs.length, .ref τ2 v2 0 zs.length])).bind (fun u' => some [u']) = _
  rw [a1]
  rfl
end Go.Proofs.Ytegoncendpboiaa
