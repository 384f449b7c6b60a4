import Derived.Test.YtjmdhfjemaoebaaGreatM0x35
import Derived.Test.YtjmdhfjemaoebaaGreatM0x34
import Derived.Test.YtjmdhfjemaoebaaGreatM0x18
import Derived.Test.YtjmdhfjemaoebaaGreatM0x19
import Derived.Test.YtjmdhfjemaoebaaGreatM0x20
namespace Go.Proofs.YtjmdhfjemaoebaaGreat
set_option maxRecDepth 20000
open Go.RowKit Go.Am
set_option linter.unusedSimpArgs false
attribute [local irreducible] aPlan aGet aIf aLoop aCall RetB NextB CallB CallG aCut aSet aAppend
set_option maxRecDepth 10000 in
theorem nodesSame_sound : Sound Tryz.prog 190 (fnS (ι := Nat × Nd × Nat × Nd) (fun | (c, n, d, m) => [.agg [.int .i64 n.op, .int .i64 n.a, .int .i64 n.b, .sl c n.l.length (n.l.map (.int .i64))], .agg [.int .i64 m.op, .int .i64 m.a, .int .i64 m.b, .sl d m.l.length (m.l.map (.int .i64))]]) (fun _ => True) (fun | (_, n, _, m) => .bool (decide (n = m)))) := by
  refine sound_of Tryz.func190 rfl (enters_of Tryz.func190 (by kernel_rfl) (by kernel_rfl)) ?_
  rintro ⟨c, n, d, m⟩ -
  conv => whnf
  repeat' (first
    | ((first | refine aIf_t ?_ | refine aIf_f ?_ | refine aGet_in rfl ?_ | refine And.intro rfl (And.intro (List.cons_ne_nil _ _) ?_) | refine callG_t ?_ | refine append_same ?_ | refine And.intro (pureL_ints _ _) ?_ | refine sameNums_call ?_); conv => whnf) | refine aIf_eqt ?_
    | (refine aIf_dec (fun _ => ?_) (fun _ => ?_) <;> conv => whnf))
  all_goals refine retS rfl (congrArg AV.bool ?_)
  all_goals (cases n; cases m; simp_all)
theorem nodesSame_call {c d : Nat} {n m : Nd} {env : List AV} {rows : List Row} {ctr low : Nat} {k : AV → St → Prop} (hpre : True) (h : k (.bool (decide (n = m))) ⟨env, rows, ctr + 1, low⟩) :
    CallB Tryz.prog 190 ⟨env, rows, ctr, low⟩ [.agg [.int .i64 n.op, .int .i64 n.a, .int .i64 n.b, .sl c n.l.length (n.l.map (.int .i64))], .agg [.int .i64 m.op, .int .i64 m.a, .int .i64 m.b, .sl d m.l.length (m.l.map (.int .i64))]] k := callS_in nodesSame_sound (c, n, d, m) hpre rfl h
set_option maxRecDepth 10000 in
theorem l6Same_sound : Sound Tryz.prog 172 (fnS (ι := Nat × Nd × Nat × Nd) (fun | (c, n, d, m) => [.agg [.int .i64 n.op, .int .i64 n.a, .int .i64 n.b, .sl c n.l.length (n.l.map (.int .i64))], .agg [.int .i64 m.op, .int .i64 m.a, .int .i64 m.b, .sl d m.l.length (m.l.map (.int .i64))]]) (fun _ => True) (fun | (_, n, _, m) => .bool (decide (n = m)))) := by
  refine sound_of Tryz.func172 rfl (enters_of Tryz.func172 (by kernel_rfl) (by kernel_rfl)) ?_
  rintro ⟨c, n, d, m⟩ -
  conv => whnf
  repeat' (first
    | ((first | refine aIf_t ?_ | refine aIf_f ?_ | refine aGet_in rfl ?_ | refine And.intro rfl (And.intro (List.cons_ne_nil _ _) ?_) | refine callG_t ?_ | refine append_same ?_ | refine And.intro (pureL_ints _ _) ?_ | refine l1Same_call ?_); conv => whnf) | refine aIf_eqt ?_
    | (refine aIf_dec (fun _ => ?_) (fun _ => ?_) <;> conv => whnf))
  all_goals refine retS rfl (congrArg AV.bool ?_)
  all_goals (cases n; cases m; simp_all)
theorem l6Same_call {c d : Nat} {n m : Nd} {env : List AV} {rows : List Row} {ctr low : Nat} {k : AV → St → Prop} (hpre : True) (h : k (.bool (decide (n = m))) ⟨env, rows, ctr + 1, low⟩) :
    CallB Tryz.prog 172 ⟨env, rows, ctr, low⟩ [.agg [.int .i64 n.op, .int .i64 n.a, .int .i64 n.b, .sl c n.l.length (n.l.map (.int .i64))], .agg [.int .i64 m.op, .int .i64 m.a, .int .i64 m.b, .sl d m.l.length (m.l.map (.int .i64))]] k := callS_in l6Same_sound (c, n, d, m) hpre rfl h
theorem firstSame_sound : Sound Tryz.prog 174 (fnS (ι := Nat × List Nd × Nat) (fun | (c, ns, q) => [.sl c ns.length (ns.flatMap (ndC c)), .int .i64 q]) (fun | (_, ns, q) => q < ns.length ∧ ns.length ≤ 1048576) (fun | (_, ns, q) => .int .i64 (fsN ns q : Nat))) := by
  refine sound_of Tryz.func174 rfl (enters_of Tryz.func174 (by kernel_rfl) (by kernel_rfl)) ?_
  rintro ⟨c, ns, q⟩ hpre
  have hpre : q < ns.length ∧ ns.length ≤ 1048576 := hpre
  have hmax : maxLen = 9223372036854775807 := rfl
  conv => whnf
  repeat' (first
    | ((first | refine plan_in (id := 4) [0, 1, 2, 3, 4, 5, 6, 7, 8] (by kernel_rfl) (by kernel_rfl) ?_ | refine append_same ?_); conv => whnf))
  refine loop_u (ι := Nat) [true, true, false, false, false, false, true, true, false, false, false, false, false, false, false, false, false, false, false, false, false, false] (fun k => [(7, .int .i64 k)]) (fun _ => []) (fun k => k ≤ q ∧ fsG ns (ns.getD q default) k (q - k) = fsN ns q) (fun k => q - k) (0) ⟨Nat.zero_le _, rfl⟩ ?_ ?_
  · conv => whnf
    repeat' (first
      | exact trivial | exact rfl
      | exact pureL_nd _ _ | refine And.intro ?_ ?_
      | exact Nat.le_of_ble_eq_true rfl)
  · rintro k ⟨hk, hi⟩
    have hk : k ≤ q := hk
    by_cases hlt : k < q
    · by_cases he : ns.getD k default = ns.getD q default
      · conv => whnf
        repeat' (first
          | ((first | refine plan_in (id := 4) [0, 1, 2, 3, 4, 5, 6, 7, 8] (by kernel_rfl) (by kernel_rfl) ?_ | refine And.intro (by omega) ?_ | refine append_same ?_ | refine part_nd_n (by omega) ?_ | refine nodesSame_call trivial ?_ | refine And.intro (pureL_ints _ _) ?_); conv => whnf) | (refine aIf_dec (fun _ => ?_) (fun _ => ?_) <;> conv => whnf))
        all_goals (first | (exfalso; omega) | contradiction | skip)
        exact retS rfl (int_eq (congrArg Int.ofNat ((fsG_t hlt he).symm.trans hi)))
      · conv => whnf
        repeat' (first
          | ((first | refine plan_in (id := 4) [0, 1, 2, 3, 4, 5, 6, 7, 8] (by kernel_rfl) (by kernel_rfl) ?_ | refine And.intro (by omega) ?_ | refine append_same ?_ | refine part_nd_n (by omega) ?_ | refine nodesSame_call trivial ?_ | refine And.intro (pureL_ints _ _) ?_); conv => whnf) | (refine aIf_dec (fun _ => ?_) (fun _ => ?_) <;> conv => whnf))
        all_goals (first | (exfalso; omega) | contradiction | skip)
        refine next_u (k + 1) (show q - (k + 1) < q - k by omega) ⟨(by omega : k + 1 ≤ q), (fsG_f hlt he).symm.trans hi⟩ ?_
        conv => whnf
        repeat' (first
          | exact trivial | exact rfl
          | exact pureL_nd _ _ | refine And.intro ?_ ?_
          | exact Nat.le_of_ble_eq_true rfl | exact int_eq (by rw [IntWalk.i64_in _ (by omega)] <;> omega))
    · have e : k = q := by omega
      subst e
      conv => whnf
      repeat' (first
        | ((first | refine plan_in (id := 4) [0, 1, 2, 3, 4, 5, 6, 7, 8] (by kernel_rfl) (by kernel_rfl) ?_ | refine And.intro (by omega) ?_ | refine append_same ?_ | refine part_nd_n (by omega) ?_ | refine nodesSame_call trivial ?_ | refine aIf_decself ?_); conv => whnf) | (refine aIf_dec (fun _ => ?_) (fun _ => ?_) <;> conv => whnf))
      all_goals (first | (exfalso; omega) | contradiction | skip)
      refine retS rfl (int_eq (congrArg Int.ofNat ?_))
      rw [← hi, Nat.sub_self]; rfl
theorem firstSame_call {c : Nat} {p : Int} {ns : List Nd} {env : List AV} {rows : List Row} {ctr low : Nat} {k : AV → St → Prop} (hpre : (0 ≤ p ∧ p < ns.length) ∧ ns.length ≤ 1048576) (h : k (.int .i64 (fsN ns p.toNat : Nat)) ⟨env, rows, ctr + 1, low⟩) :
    CallB Tryz.prog 174 ⟨env, rows, ctr, low⟩ [.sl c ns.length (ns.flatMap (ndC c)), .int .i64 p] k := by
  obtain ⟨q, rfl⟩ : ∃ q : Nat, p = q := ⟨p.toNat, by omega⟩
  rw [Int.toNat_natCast] at h
  exact callS_in firstSame_sound (c, ns, q) (by exact (by omega : q < ns.length ∧ ns.length ≤ 1048576)) rfl h
theorem l6First_sound : Sound Tryz.prog 125 (fnS (ι := Nat × List (List Int) × List Nd × Nat) (fun | (c, xss, ns, q) => [.agg [.sl c xss.length (xss.map (slI c)), .sl c ns.length (ns.flatMap (ndC c))], .int .i64 q]) (fun | (_, _, ns, q) => q < ns.length ∧ ns.length ≤ 1048576) (fun | (_, _, ns, q) => .int .i64 (fsN ns q : Nat))) := by
  refine sound_of Tryz.func125 rfl (enters_of Tryz.func125 (by kernel_rfl) (by kernel_rfl)) ?_
  rintro ⟨c, xss, ns, q⟩ hpre
  have hpre : q < ns.length ∧ ns.length ≤ 1048576 := hpre
  have hmax : maxLen = 9223372036854775807 := rfl
  conv => whnf
  repeat' (first
    | ((first | refine plan_in (id := 4) [0, 1, 2, 3, 4, 5, 6, 7, 8, 9, 10] (by kernel_rfl) (by kernel_rfl) ?_ | refine And.intro rfl (And.intro (List.cons_ne_nil _ _) ?_) | refine append_same ?_); conv => whnf))
  refine loop_u (ι := Nat) [false, true, true, false, false, true, false, false, false, false, false, false, false, false, false, false, false, false, false, false, false, false, false, false] (fun k => [(5, .int .i64 k)]) (fun _ => []) (fun k => k ≤ q ∧ fsG ns (ns.getD q default) k (q - k) = fsN ns q) (fun k => q - k) (0) ⟨Nat.zero_le _, rfl⟩ ?_ ?_
  · conv => whnf
    repeat' (first
      | exact trivial | exact rfl
      | exact pureL_ii _ _ | exact pureL_nd _ _
      | refine Or.inr ?_ | refine And.intro ?_ ?_
      | exact Nat.le_of_ble_eq_true rfl)
  · rintro k ⟨hk, hi⟩
    have hk : k ≤ q := hk
    by_cases hlt : k < q
    · by_cases he : ns.getD k default = ns.getD q default
      · conv => whnf
        repeat' (first
          | ((first | refine plan_in (id := 4) [0, 1, 2, 3, 4, 5, 6, 7, 8, 9, 10] (by kernel_rfl) (by kernel_rfl) ?_ | refine aGet_in rfl ?_ | refine And.intro (by omega) ?_ | refine append_same ?_ | refine part_nd_n (by omega) ?_ | refine l6Same_call trivial ?_ | refine And.intro (pureL_ints _ _) ?_); conv => whnf) | (refine aIf_dec (fun _ => ?_) (fun _ => ?_) <;> conv => whnf))
        all_goals (first | (exfalso; omega) | contradiction | skip)
        exact retS rfl (int_eq (congrArg Int.ofNat ((fsG_t hlt he).symm.trans hi)))
      · conv => whnf
        repeat' (first
          | ((first | refine plan_in (id := 4) [0, 1, 2, 3, 4, 5, 6, 7, 8, 9, 10] (by kernel_rfl) (by kernel_rfl) ?_ | refine aGet_in rfl ?_ | refine And.intro (by omega) ?_ | refine append_same ?_ | refine part_nd_n (by omega) ?_ | refine l6Same_call trivial ?_ | refine And.intro (pureL_ints _ _) ?_); conv => whnf) | (refine aIf_dec (fun _ => ?_) (fun _ => ?_) <;> conv => whnf))
        all_goals (first | (exfalso; omega) | contradiction | skip)
        refine next_u (k + 1) (show q - (k + 1) < q - k by omega) ⟨(by omega : k + 1 ≤ q), (fsG_f hlt he).symm.trans hi⟩ ?_
        conv => whnf
        repeat' (first
          | exact trivial | exact rfl
          | exact pureL_ii _ _ | exact pureL_nd _ _
          | refine Or.inr ?_ | refine And.intro ?_ ?_
          | exact Nat.le_of_ble_eq_true rfl | exact int_eq (by rw [IntWalk.i64_in _ (by omega)] <;> omega))
    · have e : k = q := by omega
      subst e
      conv => whnf
      repeat' (first
        | ((first | refine plan_in (id := 4) [0, 1, 2, 3, 4, 5, 6, 7, 8, 9, 10] (by kernel_rfl) (by kernel_rfl) ?_ | refine aGet_in rfl ?_ | refine And.intro (by omega) ?_ | refine append_same ?_ | refine part_nd_n (by omega) ?_ | refine l6Same_call trivial ?_ | refine aIf_decself ?_); conv => whnf) | (refine aIf_dec (fun _ => ?_) (fun _ => ?_) <;> conv => whnf))
      all_goals (first | (exfalso; omega) | contradiction | skip)
      refine retS rfl (int_eq (congrArg Int.ofNat ?_))
      rw [← hi, Nat.sub_self]; rfl
theorem l6First_call {c : Nat} {p : Int} {xss : List (List Int)} {ns : List Nd} {env : List AV} {rows : List Row} {ctr low : Nat} {k : AV → St → Prop} (hpre : (0 ≤ p ∧ p < ns.length) ∧ ns.length ≤ 1048576) (h : k (.int .i64 (fsN ns p.toNat : Nat)) ⟨env, rows, ctr + 1, low⟩) :
    CallB Tryz.prog 125 ⟨env, rows, ctr, low⟩ [.agg [.sl c xss.length (xss.map (slI c)), .sl c ns.length (ns.flatMap (ndC c))], .int .i64 p] k := by
  obtain ⟨q, rfl⟩ : ∃ q : Nat, p = q := ⟨p.toNat, by omega⟩
  rw [Int.toNat_natCast] at h
  exact callS_in l6First_sound (c, xss, ns, q) (by exact (by omega : q < ns.length ∧ ns.length ≤ 1048576)) rfl h
end Go.Proofs.YtjmdhfjemaoebaaGreat
namespace Go.Am
open Go.RowKit
def fnNB {ι : Type} (t : TypeId) (args : ι → List AV) (pre : ι → Prop) (M : ι → Option Nd) : CSpec :=
  { ι := ι, inout := [], args := args, ins := fun _ => [], pre := pre, post := fun x r ic news => ic = [] ∧ r = .tup [.agg [.int .i64 ((M x).getD default).op, .int .i64 ((M x).getD default).a, .int .i64 ((M x).getD default).b, .ref 0 0 0 ((M x).getD default).l.length], .bool (M x).isSome] ∧ news = [⟨0, t, 1, ((M x).getD default).l.map (.int .i64)⟩] }
theorem callNB_in {P : Program} {f : FuncId} {ι : Type} {t : TypeId} {args : ι → List AV} {pre : ι → Prop} {M : ι → Option Nd} (hs : Sound P f (fnNB t args pre M)) (x : ι) (hpre : pre x) {env : List AV} {rows : List Row} {ctr low : Nat} {k : AV → St → Prop}
    (hk : k (.tup [.agg [.int .i64 ((M x).getD default).op, .int .i64 ((M x).getD default).a, .int .i64 ((M x).getD default).b, .ref rows.length ctr 0 ((M x).getD default).l.length], .bool (M x).isSome]) ⟨env, rows ++ [⟨ctr, t, 1, ((M x).getD default).l.map (.int .i64)⟩], ctr + 1, low⟩) : CallB P f ⟨env, rows, ctr, low⟩ (args x) k := callB_in (sp := fnNB t args pre M) hs rfl x rfl hpre (by
  rintro r news ⟨-, rfl, rfl⟩
  rw [news_prot (protL_ints _ _)]
  simpa [AV.back, backL, backT, backV] using hk)
theorem retNB {env : List AV} {rows : List Row} {ctr τ ver m : Nat} {t : TypeId} {a b c : Int} {zs : List Int} {bb : Bool} {M : Option Nd} {cells : List AV} (hM : M.getD default = ⟨a, b, c, zs⟩) (hb : M.isSome = bb) (hr : rows[τ]? = some ⟨ver, t, 1, cells⟩) (hc : cells = zs.map (.int .i64)) (hm : m = zs.length) :
    RetB ⟨env, rows, ctr, 0⟩ [] (fun r ic news => ic = [] ∧ r = .tup [.agg [.int .i64 (M.getD default).op, .int .i64 (M.getD default).a, .int .i64 (M.getD default).b, .ref 0 0 0 (M.getD default).l.length], .bool M.isSome] ∧ news = [⟨0, t, 1, (M.getD default).l.map (.int .i64)⟩]) (.tup [.agg [.int .i64 a, .int .i64 b, .int .i64 c, .ref τ ver 0 m], .bool bb]) := by
  subst hm; subst hc; subst hb
  rw [hM]
  refine retP1 (Q := fun r news => r = .tup [.agg [.int .i64 a, .int .i64 b, .int .i64 c, .ref 0 0 0 zs.length], .bool M.isSome] ∧ news = [⟨0, t, 1, zs.map (.int .i64)⟩]) (L := [τ]) (by simp) ?_ ?_ ⟨rfl, rfl⟩
  · simp [insOf, hr, protL_ren (protL_ints _ _)]
  · simp [AV.ren, renL, hr]
theorem retNB_f {env : List AV} {rows : List Row} {ctr τ ver : Nat} {t : TypeId} {M : Option Nd} (hM : M = none) (hr : rows[τ]? = some ⟨ver, t, 1, []⟩) :
    RetB ⟨env, rows, ctr, 0⟩ [] (fun r ic news => ic = [] ∧ r = .tup [.agg [.int .i64 (M.getD default).op, .int .i64 (M.getD default).a, .int .i64 (M.getD default).b, .ref 0 0 0 (M.getD default).l.length], .bool M.isSome] ∧ news = [⟨0, t, 1, (M.getD default).l.map (.int .i64)⟩]) (.tup [.agg [.int .i64 0, .int .i64 0, .int .i64 0, .ref τ ver 0 0], .bool false]) := by
  subst hM
  exact retNB (zs := []) rfl rfl hr rfl rfl
theorem retNB_t {env : List AV} {rows : List Row} {ctr τ ver m : Nat} {t : TypeId} {a b c : Int} {zs : List Int} {M : Option Nd} {cells : List AV} (hM : M = some ⟨a, b, c, zs⟩) (hr : rows[τ]? = some ⟨ver, t, 1, cells⟩) (hc : cells = zs.map (.int .i64)) (hm : m = zs.length) :
    RetB ⟨env, rows, ctr, 0⟩ [] (fun r ic news => ic = [] ∧ r = .tup [.agg [.int .i64 (M.getD default).op, .int .i64 (M.getD default).a, .int .i64 (M.getD default).b, .ref 0 0 0 (M.getD default).l.length], .bool M.isSome] ∧ news = [⟨0, t, 1, (M.getD default).l.map (.int .i64)⟩]) (.tup [.agg [.int .i64 a, .int .i64 b, .int .i64 c, .ref τ ver 0 m], .bool true]) := by
  subst hM
  exact retNB rfl rfl hr hc hm
end Go.Am
namespace Go.Proofs.YtjmdhfjemaoebaaGreat
set_option maxRecDepth 20000
open Go.RowKit Go.Am
set_option linter.unusedSimpArgs false
attribute [local irreducible] aPlan aGet aIf aLoop aCall RetB NextB CallB CallG aCut aSet aAppend
set_option maxHeartbeats 8000000 in
theorem copyNode_sound : Sound Tryz.prog 86 (fnN (ι := Nat × Nd) 3 (fun | (c, n) => [.agg [.int .i64 n.op, .int .i64 n.a, .int .i64 n.b, .sl c n.l.length (n.l.map (.int .i64))]]) (fun | (_, n) => n.l.length ≤ 1048576) (fun | (_, n) => n)) := by
  refine sound_of Tryz.func86 rfl (enters_of Tryz.func86 (by kernel_rfl) (by kernel_rfl)) ?_
  rintro ⟨c, n⟩ hpre
  have hpre : n.l.length ≤ 1048576 := hpre
  conv => whnf
  repeat' (first
    | ((first | refine plan_in (id := 1) [0, 1, 2, 3, 4, 5, 6, 7, 8, 9, 10] (by kernel_rfl) (by kernel_rfl) ?_ | refine aGet_in rfl ?_ | refine And.intro rfl (And.intro (List.cons_ne_nil _ _) ?_) | refine And.intro (Nat.le_of_ble_eq_true rfl) ?_ | refine copyNums_call (by omega) ?_ | refine append_same ?_ | refine takeN_in ?_ | refine And.intro (pureL_ints _ _) ?_ | refine set_force ?_ | refine And.intro (by kernel_rfl) ?_); conv => whnf))
  exact retN rfl rfl rfl
theorem copyNode_call {c : Nat} {n : Nd} {env : List AV} {rows : List Row} {ctr low : Nat} {k : AV → St → Prop} (hpre : n.l.length ≤ 1048576) (h : k (.agg [.int .i64 n.op, .int .i64 n.a, .int .i64 n.b, .ref rows.length ctr 0 n.l.length]) ⟨env, rows ++ [⟨ctr, 3, 1, n.l.map (.int .i64)⟩], ctr + 1, low⟩) :
    CallB Tryz.prog 86 ⟨env, rows, ctr, low⟩ [.agg [.int .i64 n.op, .int .i64 n.a, .int .i64 n.b, .sl c n.l.length (n.l.map (.int .i64))]] k := callN_in copyNode_sound (c, n) hpre h
set_option maxHeartbeats 8000000 in
theorem cutNode_sound : Sound Tryz.prog 176 (fnN (ι := Int × Int × Int × Int) 3 (fun | (p, x, f, m) => [.int .i64 p, .int .i64 x, .int .i64 f, .int .i64 m]) (fun _ => True) (fun | (p, x, f, m) => ⟨10, p, 0, [x, f, m]⟩)) := by
  refine sound_of Tryz.func176 rfl (enters_of Tryz.func176 (by kernel_rfl) (by kernel_rfl)) ?_
  rintro ⟨p, x, f, m⟩ -
  conv => whnf
  repeat' (first
    | ((first | refine And.intro (Nat.le_of_ble_eq_true rfl) ?_ | refine append_same ?_ | refine takeN_in ?_ | refine set_force ?_ | refine And.intro (And.intro (by kernel_rfl) (And.intro rfl (Nat.le_of_ble_eq_true rfl))) ?_ | refine And.intro (by kernel_rfl) ?_); conv => whnf))
  exact retN rfl rfl rfl
theorem cutNode_call {p x f m : Int} {env : List AV} {rows : List Row} {ctr low : Nat} {k : AV → St → Prop} (h : k (.agg [.int .i64 10, .int .i64 p, .int .i64 0, .ref rows.length ctr 0 3]) ⟨env, rows ++ [⟨ctr, 3, 1, ([x, f, m] : List Int).map (.int .i64)⟩], ctr + 1, low⟩) :
    CallB Tryz.prog 176 ⟨env, rows, ctr, low⟩ [.int .i64 p, .int .i64 x, .int .i64 f, .int .i64 m] k := callN_in cutNode_sound (p, x, f, m) trivial h
end Go.Proofs.YtjmdhfjemaoebaaGreat
namespace Go.Proofs.YtjmdhfjemaoebaaGreat
set_option maxRecDepth 20000
open Go.RowKit Go.Am
set_option linter.unusedSimpArgs false
attribute [local irreducible] aPlan aGet aIf aLoop aCall RetB NextB CallB CallG aCut aSet aAppend
def c7Pre (x a : Nd) (ss : List (List Int)) : Prop := (x.op = 10 → x.l.length = 3 ∧ (0 ≤ x.l.getD (Int.toNat 0) 0 ∧ (0 ≤ x.l.getD (Int.toNat 1) 0 ∧ x.l.getD (Int.toNat 1) 0 ≤ 4)) ∧ 1 ≤ x.l.getD (Int.toNat 2) 0 ∧ x.l.getD (Int.toNat 2) 0 ≤ 4) ∧ (a.op = 11 → a.l.length = 1 ∧ (0 ≤ a.a ∧ a.a < ss.length) ∧ (0 ≤ a.l.getD (Int.toNat 0) 0 ∧ a.l.getD (Int.toNat 0) 0 < (ss.getD a.a.toNat []).length) ∧ 1 ≤ (ss.getD a.a.toNat []).getD (a.l.getD (Int.toNat 0) 0).toNat 0 ∧ (ss.getD a.a.toNat []).getD (a.l.getD (Int.toNat 0) 0).toNat 0 ≤ 4)
set_option maxHeartbeats 8000000 in
theorem partChanged_sound : Sound Tryz.prog 138 (fnNB (ι := Nat × Nd × Nat × Nd × Nat × List (List Int)) 3 (fun | (c, x, d, a, e, ss) => [.agg [.int .i64 x.op, .int .i64 x.a, .int .i64 x.b, .sl c x.l.length (x.l.map (.int .i64))], .agg [.int .i64 a.op, .int .i64 a.a, .int .i64 a.b, .sl d a.l.length (a.l.map (.int .i64))], .sl e ss.length (ss.map (slI e))]) (fun | (_, x, _, a, _, ss) => c7Pre x a ss) (fun | (_, x, _, a, _, ss) => c7 x a ss)) := by
  refine sound_of Tryz.func138 rfl (enters_of Tryz.func138 (by kernel_rfl) (by kernel_rfl)) ?_
  rintro ⟨c, x, d, a, e, ss⟩ hpre
  obtain ⟨hx, ha⟩ : c7Pre x a ss := hpre
  have hmax : maxLen = 9223372036854775807 := rfl
  have t0 : Int.toNat 0 = 0 := rfl
  have t1 : Int.toNat 1 = 1 := rfl
  have t2 : Int.toNat 2 = 2 := rfl
  by_cases h1 : x.op = 10
  · obtain ⟨lx, ⟨x0, x1⟩, x2⟩ := hx h1
    by_cases h2 : a.op = 11
    · obtain ⟨la, a1, a2, a3⟩ := ha h2
      by_cases h3 : x.l.getD (Int.toNat 0) 0 = a.l.getD (Int.toNat 0) 0
      · rw [← h3] at a2 a3
        have hP : c7P x a := ⟨h1, h2, h3⟩
        have hF : c7F x a ss = (ss.getD a.a.toNat []).getD (x.l.getD (Int.toNat 0) 0).toNat 0 := rfl
        have hw : IntKind.i64.wrap (x.l.getD (Int.toNat 1) 0 + x.l.getD (Int.toNat 2) 0) = x.l.getD (Int.toNat 1) 0 + x.l.getD (Int.toNat 2) 0 := IntWalk.i64_in _ (by omega)
        by_cases g1 : c7F x a ss ≤ x.l.getD (Int.toNat 1) 0
        · have hM : c7 x a ss = some ⟨10, a.b, 0, [x.l.getD (Int.toNat 0) 0, IntKind.i64.wrap (x.l.getD (Int.toNat 1) 0 - c7F x a ss), x.l.getD (Int.toNat 2) 0]⟩ := by unfold c7; rw [if_pos hP, if_pos g1]
          conv => whnf
          repeat' (first
            | ((first | refine plan_in (id := 1) [0, 1, 2, 3, 4, 5, 6, 7, 8, 9, 10, 11, 12, 13, 14, 15, 16, 17, 18] (by kernel_rfl) (by kernel_rfl) ?_ | refine aIf_t ?_ | refine aIf_f ?_ | refine get_int (by omega) ?_ | refine aGet_in rfl ?_ | refine And.intro (by omega) ?_ | refine And.intro rfl (And.intro (List.cons_ne_nil _ _) ?_) | refine And.intro (Nat.le_of_ble_eq_true rfl) ?_ | refine callG_t ?_ | refine append_same ?_ | refine get_ii (by omega) ?_ | refine cutNode_call ?_ | refine takeN_in ?_ | refine set_force ?_ | refine And.intro (by kernel_rfl) ?_); conv => whnf) | refine aIf_eqf ?_
            | refine aIf_not ?_ | (refine aIf_dec (fun _ => ?_) (fun _ => ?_) <;> conv => whnf))
          all_goals (first | (exfalso; omega) | contradiction | skip)
          exact retNB_t hM rfl rfl rfl
        · by_cases g2 : x.l.getD (Int.toNat 1) 0 + x.l.getD (Int.toNat 2) 0 ≤ c7F x a ss
          · have hM : c7 x a ss = some ⟨10, a.a, 0, [x.l.getD (Int.toNat 0) 0, x.l.getD (Int.toNat 1) 0, x.l.getD (Int.toNat 2) 0]⟩ := by unfold c7; rw [if_pos hP, if_neg g1, if_pos g2]
            conv => whnf
            repeat' (first
              | ((first | refine plan_in (id := 1) [0, 1, 2, 3, 4, 5, 6, 7, 8, 9, 10, 11, 12, 13, 14, 15, 16, 17, 18] (by kernel_rfl) (by kernel_rfl) ?_ | refine aIf_t ?_ | refine aIf_f ?_ | refine get_int (by omega) ?_ | refine aGet_in rfl ?_ | refine And.intro (by omega) ?_ | refine And.intro rfl (And.intro (List.cons_ne_nil _ _) ?_) | refine And.intro (Nat.le_of_ble_eq_true rfl) ?_ | refine callG_t ?_ | refine append_same ?_ | refine get_ii (by omega) ?_ | refine cutNode_call ?_ | refine takeN_in ?_ | refine set_force ?_ | refine And.intro (by kernel_rfl) ?_); conv => whnf) | refine aIf_eqf ?_
              | refine aIf_not ?_ | (refine aIf_dec (fun _ => ?_) (fun _ => ?_) <;> conv => whnf))
            all_goals (first | (exfalso; omega) | contradiction | skip)
            exact retNB_t hM rfl rfl rfl
          · have hM : c7 x a ss = none := by unfold c7; rw [if_pos hP, if_neg g1, if_neg g2]
            conv => whnf
            repeat' (first
              | ((first | refine plan_in (id := 1) [0, 1, 2, 3, 4, 5, 6, 7, 8, 9, 10, 11, 12, 13, 14, 15, 16, 17, 18] (by kernel_rfl) (by kernel_rfl) ?_ | refine aIf_t ?_ | refine aIf_f ?_ | refine get_int (by omega) ?_ | refine aGet_in rfl ?_ | refine And.intro (by omega) ?_ | refine And.intro rfl (And.intro (List.cons_ne_nil _ _) ?_) | refine And.intro (Nat.le_of_ble_eq_true rfl) ?_ | refine callG_t ?_ | refine append_same ?_ | refine get_ii (by omega) ?_ | refine cutNode_call ?_ | refine takeN_in ?_ | refine set_force ?_ | refine And.intro (by kernel_rfl) ?_); conv => whnf) | refine aIf_eqf ?_
              | refine aIf_not ?_ | (refine aIf_dec (fun _ => ?_) (fun _ => ?_) <;> conv => whnf))
            all_goals (first | (exfalso; omega) | contradiction | skip)
            all_goals exact retNB_f hM rfl
      · have hM : c7 x a ss = none := if_neg fun h : c7P x a => h3 h.2.2
        conv => whnf
        repeat' (first
          | ((first | refine plan_in (id := 1) [0, 1, 2, 3, 4, 5, 6, 7, 8, 9, 10, 11, 12, 13, 14, 15, 16, 17, 18] (by kernel_rfl) (by kernel_rfl) ?_ | refine aIf_t ?_ | refine aIf_f ?_ | refine get_nat (by omega) ?_ | refine get_int (by omega) ?_ | refine aGet_in rfl ?_ | refine And.intro (by omega) ?_ | refine And.intro rfl (And.intro (List.cons_ne_nil _ _) ?_) | refine And.intro (Nat.le_of_ble_eq_true rfl) ?_ | refine callG_t ?_ | refine append_same ?_ | refine get_ii_n (by omega) ?_ | refine cutNode_call ?_ | refine takeN_in ?_ | refine set_force ?_ | refine And.intro (by kernel_rfl) ?_); conv => whnf) | refine aIf_eqf ?_
          | refine aIf_not ?_ | (refine aIf_dec (fun _ => ?_) (fun _ => ?_) <;> conv => whnf))
        all_goals (first | (exfalso; omega) | contradiction | skip)
        all_goals exact retNB_f hM rfl
    · have hM : c7 x a ss = none := if_neg fun h : c7P x a => h2 h.2.1
      conv => whnf
      repeat' (first
        | ((first | refine plan_in (id := 1) [0, 1, 2, 3, 4, 5, 6, 7, 8, 9, 10, 11, 12, 13, 14, 15, 16, 17, 18] (by kernel_rfl) (by kernel_rfl) ?_ | refine aIf_t ?_ | refine aIf_f ?_ | refine get_nat (by omega) ?_ | refine aGet_in rfl ?_ | refine And.intro (by omega) ?_ | refine And.intro rfl (And.intro (List.cons_ne_nil _ _) ?_) | refine And.intro (Nat.le_of_ble_eq_true rfl) ?_ | refine callG_t ?_ | refine append_same ?_ | refine get_ii_n (by omega) ?_ | refine cutNode_call ?_ | refine takeN_in ?_ | refine set_force ?_ | refine And.intro (by kernel_rfl) ?_); conv => whnf) | refine aIf_eqf ?_
        | refine aIf_not ?_ | (refine aIf_dec (fun _ => ?_) (fun _ => ?_) <;> conv => whnf))
      all_goals (first | (exfalso; omega) | contradiction | skip)
      all_goals exact retNB_f hM rfl
  · have hM : c7 x a ss = none := if_neg fun h : c7P x a => h1 h.1
    conv => whnf
    repeat' (first
      | ((first | refine plan_in (id := 1) [0, 1, 2, 3, 4, 5, 6, 7, 8, 9, 10, 11, 12, 13, 14, 15, 16, 17, 18] (by kernel_rfl) (by kernel_rfl) ?_ | refine aIf_t ?_ | refine aIf_f ?_ | refine get_nat (by omega) ?_ | refine aGet_in rfl ?_ | refine And.intro (by omega) ?_ | refine And.intro rfl (And.intro (List.cons_ne_nil _ _) ?_) | refine And.intro (Nat.le_of_ble_eq_true rfl) ?_ | refine callG_t ?_ | refine append_same ?_ | refine get_ii_n (by omega) ?_ | refine cutNode_call ?_ | refine takeN_in ?_ | refine set_force ?_ | refine And.intro (by kernel_rfl) ?_); conv => whnf) | refine aIf_eqf ?_
      | refine aIf_not ?_ | (refine aIf_dec (fun _ => ?_) (fun _ => ?_) <;> conv => whnf))
    all_goals (first | (exfalso; omega) | contradiction | skip)
    all_goals exact retNB_f hM rfl
theorem partChanged_call {c d e : Nat} {x a : Nd} {ss : List (List Int)} {env : List AV} {rows : List Row} {ctr low : Nat} {k : AV → St → Prop} (hpre : c7Pre x a ss) (h : k (.tup [.agg [.int .i64 ((c7 x a ss).getD default).op, .int .i64 ((c7 x a ss).getD default).a, .int .i64 ((c7 x a ss).getD default).b, .ref rows.length ctr 0 ((c7 x a ss).getD default).l.length], .bool (c7 x a ss).isSome]) ⟨env, rows ++ [⟨ctr, 3, 1, ((c7 x a ss).getD default).l.map (.int .i64)⟩], ctr + 1, low⟩) :
    CallB Tryz.prog 138 ⟨env, rows, ctr, low⟩ [.agg [.int .i64 x.op, .int .i64 x.a, .int .i64 x.b, .sl c x.l.length (x.l.map (.int .i64))], .agg [.int .i64 a.op, .int .i64 a.a, .int .i64 a.b, .sl d a.l.length (a.l.map (.int .i64))], .sl e ss.length (ss.map (slI e))] k := callNB_in partChanged_sound (c, x, d, a, e, ss) hpre h
end Go.Proofs.YtjmdhfjemaoebaaGreat
namespace Go.Proofs.YtjmdhfjemaoebaaGreat
set_option maxRecDepth 20000
open Go.RowKit Go.Am
set_option linter.unusedSimpArgs false
attribute [local irreducible] aPlan aGet aIf aLoop aCall RetB NextB CallB CallG aCut aSet aAppend
theorem l6Is_sound : Sound Tryz.prog 126 (fnS (ι := Nat × List (List Int) × List Nd × Int × Int) (fun | (c, xss, ns, a, op) => [.agg [.sl c xss.length (xss.map (slI c)), .sl c ns.length (ns.flatMap (ndC c))], .int .i64 a, .int .i64 op]) (fun | (_, _, ns, a, _) => 0 ≤ a ∧ a < ns.length) (fun | (_, _, ns, a, op) => .bool (decide ((ns.getD a.toNat default).op = op)))) := by
  refine sound_of Tryz.func126 rfl (enters_of Tryz.func126 (by kernel_rfl) (by kernel_rfl)) ?_
  rintro ⟨c, xss, ns, a, op⟩ hpre
  have hpre : 0 ≤ a ∧ a < ns.length := hpre
  have hmax : maxLen = 9223372036854775807 := rfl
  conv => whnf
  repeat' (first
    | ((first | refine aGet_in rfl ?_ | refine And.intro (by omega) ?_ | refine And.intro rfl (And.intro (List.cons_ne_nil _ _) ?_) | refine append_same ?_ | refine get_nd (by omega) rfl ?_); conv => whnf))
  exact retS rfl (congrArg AV.bool (Bool.eq_iff_iff.2 (by simp)))
theorem l6Is_call {c : Nat} {xss : List (List Int)} {ns : List Nd} {a op : Int} {env : List AV} {rows : List Row} {ctr low : Nat} {k : AV → St → Prop} (hpre : 0 ≤ a ∧ a < ns.length) (h : k (.bool (decide ((ns.getD a.toNat default).op = op))) ⟨env, rows, ctr + 1, low⟩) :
    CallB Tryz.prog 126 ⟨env, rows, ctr, low⟩ [.agg [.sl c xss.length (xss.map (slI c)), .sl c ns.length (ns.flatMap (ndC c))], .int .i64 a, .int .i64 op] k := callS_in l6Is_sound (c, xss, ns, a, op) hpre rfl h
def whM (x a : Nd) (ss : List (List Int)) : Int × Bool :=
  if a.op = 11 ∧ a.l.getD (Int.toNat 0) 0 = x.l.getD (Int.toNat 0) 0 then (if x.l.getD (Int.toNat 1) 0 + x.l.getD (Int.toNat 2) 0 ≤ c7F x a ss then (0, true) else (1, decide (c7F x a ss ≤ x.l.getD (Int.toNat 1) 0))) else (0, false)
theorem whM_ok {x a : Nd} {ss : List (List Int)} (h : x.op = 10) (hp : c7Pre x a ss) : (c7 x a ss).isSome = (whM x a ss).2 := by
  have h2 := (hp.1 h).2.2
  unfold c7 whM
  by_cases h1 : a.op = 11 ∧ a.l.getD (Int.toNat 0) 0 = x.l.getD (Int.toNat 0) 0
  · have hP : c7P x a := ⟨h, h1.1, h1.2.symm⟩
    rw [if_pos hP, if_pos h1]
    by_cases g1 : c7F x a ss ≤ x.l.getD (Int.toNat 1) 0
    · rw [if_pos g1, if_neg (by omega)]
      exact (decide_eq_true g1).symm
    · rw [if_neg g1]
      by_cases g2 : x.l.getD (Int.toNat 1) 0 + x.l.getD (Int.toNat 2) 0 ≤ c7F x a ss
      · rw [if_pos g2, if_pos g2]; rfl
      · rw [if_neg g2, if_neg g2]
        exact (decide_eq_false g1).symm
  · have hP : ¬ c7P x a := fun h' => h1 ⟨h'.2.1, h'.2.2.symm⟩
    rw [if_neg hP, if_neg h1]; rfl
set_option maxHeartbeats 8000000 in
theorem l6Whole_sound : Sound Tryz.prog 127 (fnIB (ι := Nat × List (List Int) × List Nd × Nat × List (List Int) × Nat × Nd) (fun | (c, xss, ns, d, ss, e, x) => [.agg [.sl c xss.length (xss.map (slI c)), .sl c ns.length (ns.flatMap (ndC c))], .sl d ss.length (ss.map (slI d)), .agg [.int .i64 x.op, .int .i64 x.a, .int .i64 x.b, .sl e x.l.length (x.l.map (.int .i64))]]) (fun | (_, _, ns, _, ss, _, x) => (0 ≤ x.a ∧ x.a < ns.length) ∧ x.op = 10 ∧ c7Pre x (nA ns x) ss) (fun | (_, _, ns, _, ss, _, x) => whM x (nA ns x) ss)) := by
  refine sound_of Tryz.func127 rfl (enters_of Tryz.func127 (by kernel_rfl) (by kernel_rfl)) ?_
  rintro ⟨c, xss, ns, d, ss, e, x⟩ hpre
  obtain ⟨xa, h1, hx, ha⟩ : (0 ≤ x.a ∧ x.a < ns.length) ∧ x.op = 10 ∧ c7Pre x (nA ns x) ss := hpre
  obtain ⟨lx, ⟨x0, x1⟩, x2⟩ := hx h1
  have hmax : maxLen = 9223372036854775807 := rfl
  have t0 : Int.toNat 0 = 0 := rfl
  have t1 : Int.toNat 1 = 1 := rfl
  have t2 : Int.toNat 2 = 2 := rfl
  by_cases h2 : (ns.getD x.a.toNat default).op = 11
  · obtain ⟨la, a1, a2, a3⟩ : (ns.getD x.a.toNat default).l.length = 1 ∧ (0 ≤ (ns.getD x.a.toNat default).a ∧ (ns.getD x.a.toNat default).a < ss.length) ∧ (0 ≤ (ns.getD x.a.toNat default).l.getD (Int.toNat 0) 0 ∧ (ns.getD x.a.toNat default).l.getD (Int.toNat 0) 0 < (ss.getD (ns.getD x.a.toNat default).a.toNat []).length) ∧ 1 ≤ (ss.getD (ns.getD x.a.toNat default).a.toNat []).getD ((ns.getD x.a.toNat default).l.getD (Int.toNat 0) 0).toNat 0 ∧ (ss.getD (ns.getD x.a.toNat default).a.toNat []).getD ((ns.getD x.a.toNat default).l.getD (Int.toNat 0) 0).toNat 0 ≤ 4 := ha h2
    by_cases h3 : (ns.getD x.a.toNat default).l.getD (Int.toNat 0) 0 = x.l.getD (Int.toNat 0) 0
    · rw [h3] at a2 a3
      have hF : c7F x (nA ns x) ss = (ss.getD (ns.getD x.a.toNat default).a.toNat []).getD (x.l.getD (Int.toNat 0) 0).toNat 0 := rfl
      have hw : IntKind.i64.wrap (x.l.getD (Int.toNat 1) 0 + x.l.getD (Int.toNat 2) 0) = x.l.getD (Int.toNat 1) 0 + x.l.getD (Int.toNat 2) 0 := IntWalk.i64_in _ (by omega)
      by_cases g2 : x.l.getD (Int.toNat 1) 0 + x.l.getD (Int.toNat 2) 0 ≤ c7F x (nA ns x) ss
      · have hM : whM x (nA ns x) ss = (0, true) := by unfold whM; rw [if_pos ⟨h2, h3⟩, if_pos g2]
        conv => whnf
        repeat' (first
          | ((first | refine plan_in (id := 2) [0, 1, 2, 3, 4, 5, 6, 7, 8, 9, 10, 11, 12, 13] (by kernel_rfl) (by kernel_rfl) ?_ | refine plan_in (id := 4) [0, 1, 2, 3, 4, 5, 6, 7, 8, 9, 10, 11] (by kernel_rfl) (by kernel_rfl) ?_ | refine plan_in (id := 5) [0, 1, 2, 3, 4, 5, 6, 7, 8, 9, 10] (by kernel_rfl) (by kernel_rfl) ?_ | refine plan_in (id := 7) [0, 1, 2, 3, 4, 5, 6, 7] (by kernel_rfl) (by kernel_rfl) ?_ | refine aIf_t ?_ | refine aIf_f ?_ | refine get_nat (by omega) ?_ | refine get_int (by omega) ?_ | refine aGet_in rfl ?_ | refine And.intro (by omega) ?_ | refine And.intro rfl (And.intro (List.cons_ne_nil _ _) ?_) | refine And.intro (Nat.le_of_ble_eq_true rfl) ?_ | refine append_same ?_ | refine get_ii (by omega) ?_ | refine part_nd (by omega) ?_ | refine set_force ?_ | refine And.intro (by kernel_rfl) ?_); conv => whnf) | refine aIf_eqf ?_
          | refine aIf_not ?_ | (refine aIf_dec (fun _ => ?_) (fun _ => ?_) <;> conv => whnf))
        all_goals (first | (exfalso; omega) | contradiction | skip)
        exact retIB hM
      · have hM : whM x (nA ns x) ss = (1, decide (c7F x (nA ns x) ss ≤ x.l.getD (Int.toNat 1) 0)) := by unfold whM; rw [if_pos ⟨h2, h3⟩, if_neg g2]
        conv => whnf
        repeat' (first
          | ((first | refine plan_in (id := 2) [0, 1, 2, 3, 4, 5, 6, 7, 8, 9, 10, 11, 12, 13] (by kernel_rfl) (by kernel_rfl) ?_ | refine plan_in (id := 4) [0, 1, 2, 3, 4, 5, 6, 7, 8, 9, 10, 11] (by kernel_rfl) (by kernel_rfl) ?_ | refine plan_in (id := 5) [0, 1, 2, 3, 4, 5, 6, 7, 8, 9, 10] (by kernel_rfl) (by kernel_rfl) ?_ | refine plan_in (id := 7) [0, 1, 2, 3, 4, 5, 6, 7] (by kernel_rfl) (by kernel_rfl) ?_ | refine aIf_t ?_ | refine aIf_f ?_ | refine get_int (by omega) ?_ | refine aGet_in rfl ?_ | refine And.intro (by omega) ?_ | refine And.intro rfl (And.intro (List.cons_ne_nil _ _) ?_) | refine And.intro (Nat.le_of_ble_eq_true rfl) ?_ | refine append_same ?_ | refine get_ii (by omega) ?_ | refine part_nd (by omega) ?_ | refine set_force ?_ | refine And.intro (by kernel_rfl) ?_); conv => whnf) | refine aIf_eqf ?_
          | refine aIf_not ?_ | (refine aIf_dec (fun _ => ?_) (fun _ => ?_) <;> conv => whnf))
        all_goals (first | (exfalso; omega) | contradiction | skip)
        all_goals exact retIB hM
    · have hM : whM x (nA ns x) ss = (0, false) := if_neg fun h => h3 h.2
      conv => whnf
      repeat' (first
        | ((first | refine plan_in (id := 2) [0, 1, 2, 3, 4, 5, 6, 7, 8, 9, 10, 11, 12, 13] (by kernel_rfl) (by kernel_rfl) ?_ | refine plan_in (id := 4) [0, 1, 2, 3, 4, 5, 6, 7, 8, 9, 10, 11] (by kernel_rfl) (by kernel_rfl) ?_ | refine plan_in (id := 5) [0, 1, 2, 3, 4, 5, 6, 7, 8, 9, 10] (by kernel_rfl) (by kernel_rfl) ?_ | refine plan_in (id := 7) [0, 1, 2, 3, 4, 5, 6, 7] (by kernel_rfl) (by kernel_rfl) ?_ | refine aIf_t ?_ | refine aIf_f ?_ | refine get_nat (by omega) ?_ | refine get_int (by omega) ?_ | refine aGet_in rfl ?_ | refine And.intro (by omega) ?_ | refine And.intro rfl (And.intro (List.cons_ne_nil _ _) ?_) | refine And.intro (Nat.le_of_ble_eq_true rfl) ?_ | refine append_same ?_ | refine get_ii_n (by omega) ?_ | refine part_nd (by omega) ?_ | refine set_force ?_ | refine And.intro (by kernel_rfl) ?_); conv => whnf) | refine aIf_eqf ?_
        | refine aIf_not ?_ | (refine aIf_dec (fun _ => ?_) (fun _ => ?_) <;> conv => whnf))
      all_goals (first | (exfalso; omega) | contradiction | skip)
      all_goals exact retIB hM
  · have hM : whM x (nA ns x) ss = (0, false) := if_neg fun h => h2 h.1
    conv => whnf
    repeat' (first
      | ((first | refine plan_in (id := 2) [0, 1, 2, 3, 4, 5, 6, 7, 8, 9, 10, 11, 12, 13] (by kernel_rfl) (by kernel_rfl) ?_ | refine plan_in (id := 4) [0, 1, 2, 3, 4, 5, 6, 7, 8, 9, 10, 11] (by kernel_rfl) (by kernel_rfl) ?_ | refine plan_in (id := 5) [0, 1, 2, 3, 4, 5, 6, 7, 8, 9, 10] (by kernel_rfl) (by kernel_rfl) ?_ | refine plan_in (id := 7) [0, 1, 2, 3, 4, 5, 6, 7] (by kernel_rfl) (by kernel_rfl) ?_ | refine aIf_t ?_ | refine aIf_f ?_ | refine get_nat (by omega) ?_ | refine aGet_in rfl ?_ | refine And.intro (by omega) ?_ | refine And.intro rfl (And.intro (List.cons_ne_nil _ _) ?_) | refine And.intro (Nat.le_of_ble_eq_true rfl) ?_ | refine append_same ?_ | refine get_ii_n (by omega) ?_ | refine part_nd (by omega) ?_ | refine set_force ?_ | refine And.intro (by kernel_rfl) ?_); conv => whnf) | refine aIf_eqf ?_
      | refine aIf_not ?_ | (refine aIf_dec (fun _ => ?_) (fun _ => ?_) <;> conv => whnf))
    all_goals (first | (exfalso; omega) | contradiction | skip)
    all_goals exact retIB hM
theorem l6Whole_call {c d e : Nat} {xss ss : List (List Int)} {ns : List Nd} {x : Nd} {env : List AV} {rows : List Row} {ctr low : Nat} {k : AV → St → Prop} (hpre : (0 ≤ x.a ∧ x.a < ns.length) ∧ x.op = 10 ∧ c7Pre x (nA ns x) ss) (h : k (.tup [.int .i64 (whM x (nA ns x) ss).1, .bool (whM x (nA ns x) ss).2]) ⟨env, rows, ctr + 1, low⟩) :
    CallB Tryz.prog 127 ⟨env, rows, ctr, low⟩ [.agg [.sl c xss.length (xss.map (slI c)), .sl c ns.length (ns.flatMap (ndC c))], .sl d ss.length (ss.map (slI d)), .agg [.int .i64 x.op, .int .i64 x.a, .int .i64 x.b, .sl e x.l.length (x.l.map (.int .i64))]] k := callIB_in l6Whole_sound (c, xss, ns, d, ss, e, x) hpre h
theorem ExI.c7pre {xss ss : List (List Int)} {ns : List Nd} (h : ExI xss ns ss) {p : Nat} (hp : p < ns.length) (h2 : 2 ≤ (ns.getD p default).op) : c7Pre (ns.getD p default) (nA ns (ns.getD p default)) ss := by
  have ha := h.a hp h2
  refine ⟨fun h10 => ?_, fun h11 => ?_⟩
  · have l3 := (h.cut hp h10).1
    have hc : cshP (ss.getD (ns.getD p default).a.toNat []) (ns.getD p default).l := (h.cut hp h10).2
    obtain ⟨c1, c2, c3, c4⟩ := hc
    have hs := ok_size (h.sh (ns.getD p default).a.toNat (by have := h.len; omega)) (show ((ns.getD p default).l.getD (Int.toNat 0) 0).toNat < (ss.getD (ns.getD p default).a.toNat []).length by have := c1.2; omega)
    exact ⟨l3, ⟨c1.1, c3, by omega⟩, c2⟩
  · have hq : (ns.getD p default).a.toNat < ns.length := by omega
    have h11 : (ns.getD (ns.getD p default).a.toNat default).op = 11 := h11
    have l1 := (h.bes hq h11).1
    have hb : bshP (ss.getD (ns.getD (ns.getD p default).a.toNat default).a.toNat []) (ss.getD (ns.getD (ns.getD p default).a.toNat default).b.toNat []) ((ns.getD (ns.getD p default).a.toNat default).l.getD (Int.toNat 0) 0) := (h.bes hq h11).2
    obtain ⟨b1, b2, b3, b4⟩ := hb
    have ha' := h.a hq (by omega)
    have hs := ok_size (h.sh (ns.getD (ns.getD p default).a.toNat default).a.toNat (by have := h.len; omega)) (show ((ns.getD (ns.getD p default).a.toNat default).l.getD (Int.toNat 0) 0).toNat < (ss.getD (ns.getD (ns.getD p default).a.toNat default).a.toNat []).length by have := b2.2; omega)
    have hlt : (ns.getD (ns.getD p default).a.toNat default).a < (ss.length : Int) := by have := h.len; omega
    exact ⟨l1, ⟨ha'.1, hlt⟩, b2, hs⟩
theorem ExI.c2pre {xss ss : List (List Int)} {ns : List Nd} (h : ExI xss ns ss) {p : Nat} (hp : p < ns.length) (h2 : 2 ≤ (ns.getD p default).op) : ((ns.getD p default).op = 8 ∧ (nA ns (ns.getD p default)).op = 8) → (ns.getD p default).l.length ≤ 1048576 ∧ ∀ j, j < (ns.getD p default).l.length → 0 ≤ (ns.getD p default).l.getD j 0 ∧ (ns.getD p default).l.getD j 0 < (nA ns (ns.getD p default)).l.length := fun h8 => by
  have ha := h.a hp h2
  have hq : (ns.getD p default).a.toNat < ns.length := by omega
  obtain ⟨a1, ⟨a2, a3⟩, a4⟩ := h.turn hp h8.1
  obtain ⟨b1, ⟨b2, b3⟩, b4⟩ := h.turn hq h8.2
  refine ⟨by omega, fun j hj => ?_⟩
  have := a3 j hj
  have e : (shA (ns.getD p default) ss).length = (ns.getD (ns.getD p default).a.toNat default).l.length := by
    show (ss.getD (ns.getD p default).a.toNat []).length = _
    rw [b4, turned_length]
  rw [e] at this
  exact this
theorem ExI.c6pre {xss ss : List (List Int)} {ns : List Nd} (h : ExI xss ns ss) {p : Nat} (hp : p < ns.length) (h2 : 2 ≤ (ns.getD p default).op) : ((ns.getD p default).op = 10 → (ns.getD p default).l.length = 3) ∧ ((nA ns (ns.getD p default)).op = 10 → (nA ns (ns.getD p default)).l.length = 3) := by
  have ha := h.a hp h2
  exact ⟨fun h10 => (h.cut hp h10).1, fun h10 => (h.cut (show (ns.getD p default).a.toNat < ns.length by omega) h10).1⟩
end Go.Proofs.YtjmdhfjemaoebaaGreat
