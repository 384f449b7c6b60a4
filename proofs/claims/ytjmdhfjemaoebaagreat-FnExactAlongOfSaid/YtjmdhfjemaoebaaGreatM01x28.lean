import Derived.Test.YtjmdhfjemaoebaaGreatM01x26
import Derived.Test.YtjmdhfjemaoebaaGreatM01x27
import Derived.Test.YtjmdhfjemaoebaaGreatM01x13
import Derived.Test.YtjmdhfjemaoebaaGreatM01x11
import Derived.Test.YtjmdhfjemaoebaaGreatM01x12
namespace Go.Proofs.YtjmdhfjemaoebaaGreat
set_option maxRecDepth 20000
open Go.RowKit Go.Am
set_option linter.unusedSimpArgs false
theorem fillO_cut {t : TypeId} {ss : List (List Int)} {r f : Nat} {K : List AV → Prop} (hK : K (ss.map (slI 0))) : aCut (f + 2) (ss.map (ownI t) ++ List.replicate r AV.nil) 0 (ss.length * 1) K := by
  refine ⟨by simp, ss.map (slI 0), ?_, hK⟩
  rw [List.drop_zero, Nat.mul_one, List.take_left' (by simp)]
  exact trL_map (tr_ownI f t) ss
attribute [local irreducible] aPlan aGet aIf aLoop aCall RetB NextB CallB CallG aCut aSet aAppend
theorem le_snocR {t : TypeId} {ss : List (List Int)} {xs : List Int} {u : AV} {r r' : Nat} {p : Prop} (he : r' = r) : (pureL (((ss.map (ownI t)) ++ ([u] ++ List.replicate r AV.nil)).set ss.length (ownI t xs)) = true ∧ (ss ++ [xs]).map (ownI t) ++ List.replicate r' AV.nil = ((ss.map (ownI t)) ++ ([u] ++ List.replicate r AV.nil)).set ss.length (ownI t xs)) ∨ p := by
  subst he
  refine le_cells ?_ (pureL_app (pureL_oi _ _) (pureL_rep _ rfl _))
  rw [List.set_append_right _ _ (by simp)]
  simp
set_option maxHeartbeats 8000000 in
theorem iShapesOf_sound : Sound Tryz.prog 84 sShapesOf := by
  refine sound_of Tryz.func84 rfl (enters_of Tryz.func84 (by kernel_rfl) (by kernel_rfl)) ?_
  rintro ⟨c, xss, ns⟩ hpre
  have hE : eP ns := hpre
  have hmax : maxLen = 9223372036854775807 := rfl
  by_cases hI : insOk xss ∧ 1 ≤ ns.length ∧ ns.length ≤ 12
  · obtain ⟨hi, h1, h12⟩ := hI
    have hins : allOk xss := hi.2
    conv => whnf
    repeat' (first
      | ((first | refine And.intro (And.intro (show (0 : Int) ≤ _ by omega) (And.intro (by kernel_rfl) (And.intro rfl (by kernel_rfl)))) (And.intro (And.intro (by omega) (And.intro (bytes_le (b := 24) rfl (by omega)) (by omega))) ?_) | refine aIf_t ?_ | refine aIf_f ?_ | refine fun (_ : _ ≤ maxLen) => ?_ | refine aGet_in rfl ?_ | refine And.intro rfl (And.intro (List.cons_ne_nil _ _) ?_) | refine callG_t ?_ | refine append_same ?_ | refine And.intro (pureL_ii _ _) ?_ | refine inputShapesOk_call trivial ?_); conv => whnf) | refine aIf_eqf ?_
      | refine aIf_not ?_ | (refine aIf_dec (fun _ => ?_) (fun _ => ?_) <;> conv => whnf))
    all_goals (first | (exfalso; omega) | (exfalso; exact absurd hi (by assumption)) | skip)
    refine loop_ut (ι := List (List Int)) [false, true, false, false, true, false, false, false, false, false, false, false, false, false, false, false, false, false, false, false, false, false, false, false, false, false, false, false, false, false, true, true, false, false, false, false, false, false, false, false, false, false, false, false, false, false, false, false, false] (fun ss => [(4, .ref 2 4 0 ss.length), (31, .int .i64 ss.length)]) (fun ss => [(2, ss.map (ownI 3) ++ List.replicate (ns.length - ss.length) .nil)]) (fun ss => ss.length ≤ ns.length ∧ shTo xss ns ss.length = some ss) (fun ss => ns.length - ss.length) ([]) ⟨Nat.zero_le _, rfl⟩ ?_ ?_
    · conv => whnf
      refine St.le.to ?_
      conv => whnf
      repeat' (first | exact le_cells (show rep (ns.length : Int).toNat [AV.nil] = ([] : List (List Int)).map (ownI 3) ++ List.replicate (ns.length - 0) AV.nil by simp [rep]) (pureL_app (pureL_oi _ _) (pureL_rep _ rfl _)) | refine And.intro ?_ ?_)
      repeat' (first
        | exact trivial | exact rfl
        | exact Or.inl (And.intro rfl rfl) | exact pureL_ii _ _
        | exact pureL_nd _ _ | refine Or.inr ?_
        | refine And.intro ?_ ?_ | exact Nat.le_of_ble_eq_true rfl)
    · rintro ss ⟨hsl, hss⟩
      have hsl : ss.length ≤ ns.length := hsl
      have hok := shTo_ok hins hss
      by_cases hlt : ss.length < ns.length
      · obtain ⟨hxl, hwf⟩ := hE _ hlt
        conv => whnf
        repeat' (first
          | ((first | refine aGet_in rfl ?_ | refine load_same ?_ | refine And.intro (Nat.le_of_ble_eq_true rfl) ?_ | refine callG_t ?_ | refine append_same ?_ | refine And.intro (pureL_ii _ _) ?_ | refine And.intro (pureL_nd _ _) ?_); conv => whnf) | (refine shapeAt_call (by refine ⟨?_, ?_, ?_, ?_, ?_⟩ <;> first | assumption | omega | rfl) ?_; conv => whnf) | ((first | refine fillO_cut ?_ | refine takeN_in ?_ | refine And.intro (And.intro (by kernel_rfl) (And.intro rfl (Nat.le_of_ble_eq_true rfl))) ?_ | refine And.intro (by kernel_rfl) ?_); conv => whnf) | refine aIf_not ?_
          | (refine aIf_dec (fun _ => ?_) (fun _ => ?_) <;> conv => whnf))
        all_goals (first | (exfalso; omega) | skip)
        · rename_i hP
          refine append_lr rfl (by simp) rfl rfl (by omega) ?_
          conv => whnf
          repeat' (first
            | (refine append_same ?_; conv => whnf))
          have hn' := shTo_t hss hP
          have hL : naL xss ns ss ss.length = kL (ns.getD ss.length default) ss xss := if_pos hP
          have hlen : (ss ++ [naL xss ns ss ss.length]).length = ss.length + 1 := by simp
          refine next_ut (ss ++ [naL xss ns ss ss.length]) (show ns.length - (ss ++ [naL xss ns ss ss.length]).length < ns.length - ss.length by omega) ⟨(by omega : (ss ++ [naL xss ns ss ss.length]).length ≤ ns.length), by rw [hlen, hL]; exact hn'⟩ ?_
          conv => whnf
          refine to_close 2 ss.length 3 _ _ 1 3 _ _ rfl (by simp; rfl) rfl (by decide) (Nat.zero_le _) (by decide) (by simp) ?_
          refine St.le.to ?_
          conv => whnf
          repeat' (first | exact le_snocR (by omega) | refine And.intro ?_ ?_)
          repeat' (first
            | exact trivial | exact rfl
            | exact Or.inl (And.intro rfl rfl) | exact pureL_ii _ _
            | exact pureL_nd _ _ | refine Or.inr ?_
            | refine And.intro ?_ ?_ | exact Nat.le_of_ble_eq_true rfl
            | exact List.length_append | exact int_eq (by rw [IntWalk.i64_in _ (by omega)] <;> omega))
        · rename_i hP
          exact retRBM (shM_n (shTo_none (shTo_f hss hP) _ (by omega))) rfl rfl rfl
      · have he : ss.length = ns.length := by omega
        have e0 : ns.length - ss.length = 0 := by omega
        conv => whnf
        repeat' (first
          | ((first | refine aGet_in rfl ?_ | refine And.intro (by omega) ?_ | refine load_same ?_ | refine callG_t ?_ | refine append_same ?_); conv => whnf) | (refine shapeAt_call (by refine ⟨?_, ?_, ?_, ?_, ?_⟩ <;> first | assumption | omega | rfl) ?_; conv => whnf) | ((first | refine fillO_cut ?_ | refine takeN_in ?_); conv => whnf) | refine aIf_not ?_
          | (refine aIf_dec (fun _ => ?_) (fun _ => ?_) <;> conv => whnf))
        all_goals (first | (exfalso; omega) | skip)
        exact retRBM (shM_t ⟨hi, h1, h12⟩ (by rw [← he]; exact hss)) rfl (by rw [e0]; simp) rfl
  · have hM := shM_f hI
    conv => whnf
    repeat' (first
      | ((first | refine And.intro (And.intro (show (0 : Int) ≤ _ by omega) (And.intro (by kernel_rfl) (And.intro rfl (by kernel_rfl)))) (And.intro (And.intro (by omega) (And.intro (bytes_le (b := 24) rfl (by omega)) (by omega))) ?_) | refine aIf_t ?_ | refine aIf_f ?_ | refine fun (_ : _ ≤ maxLen) => ?_ | refine aGet_in rfl ?_ | refine And.intro rfl (And.intro (List.cons_ne_nil _ _) ?_) | refine callG_t ?_ | refine append_same ?_ | refine And.intro (pureL_ii _ _) ?_ | refine inputShapesOk_call trivial ?_); conv => whnf) | refine aIf_eqf ?_
      | refine aIf_not ?_ | (refine aIf_dec (fun _ => ?_) (fun _ => ?_) <;> conv => whnf))
    all_goals (first | exact retRBM hM rfl rfl rfl | (exfalso; exact hI ⟨by assumption, by omega, by omega⟩))
theorem iShapesOf_call {c : Nat} {xss : List (List Int)} {ns : List Nd} {env : List AV} {rows : List Row} {ctr low : Nat} {k : AV → St → Prop} (hpre : eP ns)
    (h : k (.tup [.ref rows.length ctr 0 (shM xss ns).1.length, .bool (shM xss ns).2]) ⟨env, rows ++ [⟨ctr, 38, 1, (shM xss ns).1.map (ownI 3)⟩], ctr + 1, low⟩) :
    CallB Tryz.prog 84 ⟨env, rows, ctr, low⟩ [.agg [.sl c xss.length (xss.map (slI c)), .sl c ns.length (ns.flatMap (ndC c))]] k := callRB_in iShapesOf_sound (c, xss, ns) hpre (protL_oi _ _) h
theorem iExprOk_sound : Sound Tryz.prog 41 (fnS (ι := Nat × List (List Int) × List Nd) (fun | (c, xss, ns) => [.agg [.sl c xss.length (xss.map (slI c)), .sl c ns.length (ns.flatMap (ndC c))]]) (fun | (_, _, ns) => eP ns) (fun | (_, xss, ns) => .bool (shM xss ns).2)) := by
  refine sound_of Tryz.func41 rfl (enters_of Tryz.func41 (by kernel_rfl) (by kernel_rfl)) ?_
  rintro ⟨c, xss, ns⟩ hpre
  have hE : eP ns := hpre
  conv => whnf
  repeat' (first
    | ((first | refine aGet_in rfl ?_ | refine load_same ?_ | refine And.intro rfl (And.intro (List.cons_ne_nil _ _) ?_) | refine And.intro (Nat.le_of_ble_eq_true rfl) ?_ | refine callG_t ?_ | refine append_same ?_ | refine And.intro (pureL_ii _ _) ?_ | refine And.intro (pureL_nd _ _) ?_ | refine iShapesOf_call (by assumption) ?_ | refine takeN_in ?_ | refine And.intro (by kernel_rfl) ?_); conv => whnf))
  exact retS rfl rfl
theorem iExprOk_call {c : Nat} {xss : List (List Int)} {ns : List Nd} {env : List AV} {rows : List Row} {ctr low : Nat} {k : AV → St → Prop} (hpre : eP ns) (h : k (.bool (shM xss ns).2) ⟨env, rows, ctr + 1, low⟩) :
    CallB Tryz.prog 41 ⟨env, rows, ctr, low⟩ [.agg [.sl c xss.length (xss.map (slI c)), .sl c ns.length (ns.flatMap (ndC c))]] k := callS_in iExprOk_sound (c, xss, ns) hpre rfl h
end Go.Proofs.YtjmdhfjemaoebaaGreat
namespace Go.Proofs.YtjmdhfjemaoebaaGreat
set_option maxRecDepth 20000
open Go.RowKit Go.Am
attribute [local irreducible] aPlan aGet aIf aLoop aCall RetB NextB CallB CallG aCut aSet aAppend
def tot (xss : List (List Int)) : Nat := (xss.map List.length).sum
def ntot (ns : List Nd) : Nat := (ns.map fun n => n.l.length).sum
def ttot (ts : List T2) : Nat := (ts.map fun t => t.1.length + t.2.length).sum
theorem sum_take_succ {α : Type} (f : α → Nat) (d : α) {l : List α} {k : Nat} (h : k < l.length) : ((l.take (k + 1)).map f).sum = ((l.take k).map f).sum + f (l.getD k d) := by
  rw [List.take_add_one, List.map_append, List.sum_append, getD_eq (d := d) h]
  simp
theorem sum_take_le {α : Type} (f : α → Nat) (l : List α) (k : Nat) : ((l.take k).map f).sum ≤ (l.map f).sum := by
  conv => rhs; rw [← List.take_append_drop k l]
  rw [List.map_append, List.sum_append]
  omega
theorem getD_le_sum {α : Type} (f : α → Nat) (d : α) {l : List α} {k : Nat} (h : k < l.length) : f (l.getD k d) ≤ (l.map f).sum := by
  have h1 := sum_take_succ f d h
  have h2 := sum_take_le f l (k + 1)
  omega
theorem tot_succ {xss : List (List Int)} {k : Nat} (h : k < xss.length) : tot (xss.take (k + 1)) = tot (xss.take k) + (xss.getD k []).length := sum_take_succ _ [] h
theorem ntot_succ {xss : List Nd} {k : Nat} (h : k < xss.length) : ntot (xss.take (k + 1)) = ntot (xss.take k) + (xss.getD k default).l.length := sum_take_succ (fun n : Nd => n.l.length) default h
theorem ttot_succ {xss : List T2} {k : Nat} (h : k < xss.length) : ttot (xss.take (k + 1)) = ttot (xss.take k) + ((xss.getD k ([], [])).1.length + (xss.getD k ([], [])).2.length) := sum_take_succ (fun t : T2 => t.1.length + t.2.length) ([], []) h
theorem tot_all {xss : List (List Int)} {k : Nat} (h : k = xss.length) : tot (xss.take k) = tot xss := by rw [h, List.take_length]
theorem ntot_all {xss : List Nd} {k : Nat} (h : k = xss.length) : ntot (xss.take k) = ntot xss := by rw [h, List.take_length]
theorem ttot_all {xss : List T2} {k : Nat} (h : k = xss.length) : ttot (xss.take k) = ttot xss := by rw [h, List.take_length]
abbrev leftN (q : Nat) (m : Int) (r : AV) (news : List Row) : Prop := ∃ n : Int, r = .int .i64 n ∧ news = [] ∧ (n < 0 ∨ (0 ≤ n ∧ n = m - q))
set_option maxRecDepth 10000 in
theorem szIntSS_sound : Sound Tryz.prog 33 (fnP (ι := Nat × List (List Int) × Int) (fun | (c, xss, m) => [.sl c xss.length (xss.map (slI c)), .int .i64 m]) (fun | (_, _, m) => 0 ≤ m ∧ m ≤ 1048576) (fun | (_, xss, m) => leftN (xss.length + tot xss) m)) := by
  refine sound_of Tryz.func33 rfl (enters_of Tryz.func33 (by kernel_rfl) (by kernel_rfl)) ?_
  rintro ⟨c, xss, m⟩ hpre
  have hpre : 0 ≤ m ∧ m ≤ 1048576 := hpre
  have hmax : maxLen = 9223372036854775807 := rfl
  conv => whnf
  repeat' (first
    | ((first | refine fun (_ : _ ≤ maxLen) => ?_ | refine append_same ?_); conv => whnf) | (refine aIf_dec (fun _ => ?_) (fun _ => ?_) <;> conv => whnf))
  · exact retP1 (L := []) (by simp) rfl rfl ⟨_, rfl, rfl, .inl (by decide)⟩
  · rename_i h0
    rw [IntWalk.i64_in (m - xss.length) (by omega)] at h0
    refine loop_u (ι := Nat × Int) [true, true, false, false, false, true, false, false, false, false, false, false, false, false, false, false, false, false, false, false, false, false, false, false, false, false, false] (fun | (k, n) => [(1, .int .i64 n), (5, .int .i64 k)]) (fun _ => []) (fun | (k, n) => k ≤ xss.length ∧ 0 ≤ n ∧ n = m - xss.length - tot (xss.take k)) (fun x => xss.length - x.1) ((0, m - xss.length)) ⟨Nat.zero_le _, by omega, by simp [tot]⟩ ?_ ?_
    · conv => whnf
      repeat' (first
        | exact trivial | exact rfl
        | exact pureL_ii _ _ | refine And.intro ?_ ?_
        | exact Nat.le_of_ble_eq_true rfl | exact int_eq (by rw [IntWalk.i64_in _ (by omega)] <;> omega))
    · rintro ⟨k, n⟩ ⟨hk, hn, he⟩
      conv => whnf
      repeat' (first
        | ((first | refine fun (_ : _ ≤ maxLen) => ?_ | refine And.intro (by omega) ?_ | refine callG_t ?_ | refine szIntS_call (by omega) (fun _ _ => ?_) | refine append_same ?_ | refine get_ii_n (by omega) ?_ | refine And.intro (pureL_ints _ _) ?_); conv => whnf) | (refine aIf_dec (fun _ => ?_) (fun _ => ?_) <;> conv => whnf))
      · exact retP1 (L := []) (by simp) rfl rfl ⟨_, rfl, rfl, .inl (by decide)⟩
      · rename_i hlt _ n' h1 h2
        have := tot_succ (xss := xss) (k := k) (by omega)
        refine next_u ((k + 1, n')) (show xss.length - (k + 1) < xss.length - k by omega) ⟨(by omega : k + 1 ≤ xss.length), (by omega : 0 ≤ n'), (by omega : n' = m - xss.length - tot (xss.take (k + 1)))⟩ ?_
        conv => whnf
        repeat' (first
          | exact trivial | exact rfl
          | exact pureL_ii _ _ | refine And.intro ?_ ?_
          | exact Nat.le_of_ble_eq_true rfl | exact int_eq (by rw [IntWalk.i64_in _ (by omega)] <;> omega))
      · have := tot_all (xss := xss) (k := k) (by omega)
        exact retP1 (L := []) (by simp) rfl rfl ⟨_, rfl, rfl, .inr (by omega)⟩
theorem szIntSS_call {c : Nat} {xss : List (List Int)} {m : Int} {env : List AV} {rows : List Row} {ctr low : Nat} {k : AV → St → Prop} (hpre : 0 ≤ m ∧ m ≤ 1048576) (hk : ∀ q : Int, (q < 0 ∨ (0 ≤ q ∧ q = m - ((xss.length + tot xss : Nat) : Int))) → k (.int .i64 q) ⟨env, rows, ctr + 1, low⟩) :
    CallB Tryz.prog 33 ⟨env, rows, ctr, low⟩ [.sl c xss.length (xss.map (slI c)), .int .i64 m] k := callP_in szIntSS_sound (c, xss, m) hpre (by
  rintro r news ⟨n, rfl, rfl, h⟩
  simpa [AV.back, St.news] using hk n h)
set_option maxRecDepth 10000 in
theorem szNode_sound : Sound Tryz.prog 77 (fnP (ι := Nat × Nd × Int) (fun | (c, n, m) => [.agg [.int .i64 n.op, .int .i64 n.a, .int .i64 n.b, .sl c n.l.length (n.l.map (.int .i64))], .int .i64 m]) (fun | (_, _, m) => 0 ≤ m ∧ m ≤ 1048576) (fun | (_, n, m) => leftN n.l.length m)) := by
  refine sound_of Tryz.func77 rfl (enters_of Tryz.func77 (by kernel_rfl) (by kernel_rfl)) ?_
  rintro ⟨c, n, m⟩ hpre
  have hpre : 0 ≤ m ∧ m ≤ 1048576 := hpre
  conv => whnf
  repeat' (first
    | ((first | refine aGet_in rfl ?_ | refine And.intro rfl (And.intro (List.cons_ne_nil _ _) ?_) | refine callG_t ?_ | refine szIntS_call (by omega) (fun _ _ => ?_) | refine append_same ?_ | refine And.intro (pureL_ints _ _) ?_); conv => whnf) | (refine aIf_dec (fun _ => ?_) (fun _ => ?_) <;> conv => whnf))
  · exact retP1 (L := []) (by simp) rfl rfl ⟨_, rfl, rfl, .inl (by decide)⟩
  · exact retP1 (L := []) (by simp) rfl rfl ⟨_, rfl, rfl, .inr (by omega)⟩
theorem szNode_call {c : Nat} {n : Nd} {m : Int} {env : List AV} {rows : List Row} {ctr low : Nat} {k : AV → St → Prop} (hpre : 0 ≤ m ∧ m ≤ 1048576) (hk : ∀ q : Int, (q < 0 ∨ (0 ≤ q ∧ q = m - ((n.l.length : Nat) : Int))) → k (.int .i64 q) ⟨env, rows, ctr + 1, low⟩) :
    CallB Tryz.prog 77 ⟨env, rows, ctr, low⟩ [.agg [.int .i64 n.op, .int .i64 n.a, .int .i64 n.b, .sl c n.l.length (n.l.map (.int .i64))], .int .i64 m] k := callP_in szNode_sound (c, n, m) hpre (by
  rintro r news ⟨n, rfl, rfl, h⟩
  simpa [AV.back, St.news] using hk n h)
set_option maxRecDepth 10000 in
theorem szNodeS_sound : Sound Tryz.prog 34 (fnP (ι := Nat × List Nd × Int) (fun | (c, xss, m) => [.sl c xss.length (xss.flatMap (ndC c)), .int .i64 m]) (fun | (_, _, m) => 0 ≤ m ∧ m ≤ 1048576) (fun | (_, xss, m) => leftN (xss.length + ntot xss) m)) := by
  refine sound_of Tryz.func34 rfl (enters_of Tryz.func34 (by kernel_rfl) (by kernel_rfl)) ?_
  rintro ⟨c, xss, m⟩ hpre
  have hpre : 0 ≤ m ∧ m ≤ 1048576 := hpre
  have hmax : maxLen = 9223372036854775807 := rfl
  conv => whnf
  repeat' (first
    | ((first | refine fun (_ : _ ≤ maxLen) => ?_ | refine append_same ?_); conv => whnf) | (refine aIf_dec (fun _ => ?_) (fun _ => ?_) <;> conv => whnf))
  · exact retP1 (L := []) (by simp) rfl rfl ⟨_, rfl, rfl, .inl (by decide)⟩
  · rename_i h0
    rw [IntWalk.i64_in (m - xss.length) (by omega)] at h0
    refine loop_u (ι := Nat × Int) [true, true, false, false, false, true, false, false, false, false, false, false, false, false, false, false, false, false, false, false, false, false, false, false, false, false, false] (fun | (k, n) => [(1, .int .i64 n), (5, .int .i64 k)]) (fun _ => []) (fun | (k, n) => k ≤ xss.length ∧ 0 ≤ n ∧ n = m - xss.length - ntot (xss.take k)) (fun x => xss.length - x.1) ((0, m - xss.length)) ⟨Nat.zero_le _, by omega, by simp [ntot]⟩ ?_ ?_
    · conv => whnf
      repeat' (first
        | exact trivial | exact rfl
        | exact pureL_nd _ _ | refine And.intro ?_ ?_
        | exact Nat.le_of_ble_eq_true rfl | exact int_eq (by rw [IntWalk.i64_in _ (by omega)] <;> omega))
    · rintro ⟨k, n⟩ ⟨hk, hn, he⟩
      conv => whnf
      repeat' (first
        | ((first | refine fun (_ : _ ≤ maxLen) => ?_ | refine And.intro (by omega) ?_ | refine callG_t ?_ | refine append_same ?_ | refine part_nd_n (by omega) ?_ | refine szNode_call (by omega) (fun _ _ => ?_) | refine And.intro (pureL_ints _ _) ?_); conv => whnf) | (refine aIf_dec (fun _ => ?_) (fun _ => ?_) <;> conv => whnf))
      · exact retP1 (L := []) (by simp) rfl rfl ⟨_, rfl, rfl, .inl (by decide)⟩
      · rename_i hlt _ n' h1 h2
        have := ntot_succ (xss := xss) (k := k) (by omega)
        refine next_u ((k + 1, n')) (show xss.length - (k + 1) < xss.length - k by omega) ⟨(by omega : k + 1 ≤ xss.length), (by omega : 0 ≤ n'), (by omega : n' = m - xss.length - ntot (xss.take (k + 1)))⟩ ?_
        conv => whnf
        repeat' (first
          | exact trivial | exact rfl
          | exact pureL_nd _ _ | refine And.intro ?_ ?_
          | exact Nat.le_of_ble_eq_true rfl | exact int_eq (by rw [IntWalk.i64_in _ (by omega)] <;> omega))
      · have := ntot_all (xss := xss) (k := k) (by omega)
        exact retP1 (L := []) (by simp) rfl rfl ⟨_, rfl, rfl, .inr (by omega)⟩
theorem szNodeS_call {c : Nat} {xss : List Nd} {m : Int} {env : List AV} {rows : List Row} {ctr low : Nat} {k : AV → St → Prop} (hpre : 0 ≤ m ∧ m ≤ 1048576) (hk : ∀ q : Int, (q < 0 ∨ (0 ≤ q ∧ q = m - ((xss.length + ntot xss : Nat) : Int))) → k (.int .i64 q) ⟨env, rows, ctr + 1, low⟩) :
    CallB Tryz.prog 34 ⟨env, rows, ctr, low⟩ [.sl c xss.length (xss.flatMap (ndC c)), .int .i64 m] k := callP_in szNodeS_sound (c, xss, m) hpre (by
  rintro r news ⟨n, rfl, rfl, h⟩
  simpa [AV.back, St.news] using hk n h)
set_option maxRecDepth 10000 in
theorem szTensorS_sound : Sound Tryz.prog 15 (fnP (ι := Nat × List T2 × Int) (fun | (c, xss, m) => [.sl c xss.length (xss.flatMap (tnC c)), .int .i64 m]) (fun | (_, _, m) => 0 ≤ m ∧ m ≤ 1048576) (fun | (_, xss, m) => leftN (xss.length + ttot xss) m)) := by
  refine sound_of Tryz.func15 rfl (enters_of Tryz.func15 (by kernel_rfl) (by kernel_rfl)) ?_
  rintro ⟨c, xss, m⟩ hpre
  have hpre : 0 ≤ m ∧ m ≤ 1048576 := hpre
  have hmax : maxLen = 9223372036854775807 := rfl
  conv => whnf
  repeat' (first
    | ((first | refine fun (_ : _ ≤ maxLen) => ?_ | refine append_same ?_); conv => whnf) | (refine aIf_dec (fun _ => ?_) (fun _ => ?_) <;> conv => whnf))
  · exact retP1 (L := []) (by simp) rfl rfl ⟨_, rfl, rfl, .inl (by decide)⟩
  · rename_i h0
    rw [IntWalk.i64_in (m - xss.length) (by omega)] at h0
    refine loop_u (ι := Nat × Int) [true, true, false, false, false, true, false, false, false, false, false, false, false, false, false, false, false, false, false, false, false, false, false, false, false, false, false] (fun | (k, n) => [(1, .int .i64 n), (5, .int .i64 k)]) (fun _ => []) (fun | (k, n) => k ≤ xss.length ∧ 0 ≤ n ∧ n = m - xss.length - ttot (xss.take k)) (fun x => xss.length - x.1) ((0, m - xss.length)) ⟨Nat.zero_le _, by omega, by simp [ttot]⟩ ?_ ?_
    · conv => whnf
      repeat' (first
        | exact trivial | exact rfl
        | exact pureL_tn _ _ | refine And.intro ?_ ?_
        | exact Nat.le_of_ble_eq_true rfl | exact int_eq (by rw [IntWalk.i64_in _ (by omega)] <;> omega))
    · rintro ⟨k, n⟩ ⟨hk, hn, he⟩
      conv => whnf
      repeat' (first
        | ((first | refine fun (_ : _ ≤ maxLen) => ?_ | refine And.intro (by omega) ?_ | refine callG_t ?_ | refine szTensor_call (by omega) (fun _ _ => ?_) | refine append_same ?_ | refine part_tn_n (by omega) ?_ | refine And.intro (pureL_ints _ _) ?_); conv => whnf) | (refine aIf_dec (fun _ => ?_) (fun _ => ?_) <;> conv => whnf))
      · exact retP1 (L := []) (by simp) rfl rfl ⟨_, rfl, rfl, .inl (by decide)⟩
      · rename_i hlt _ n' h1 h2
        have := ttot_succ (xss := xss) (k := k) (by omega)
        refine next_u ((k + 1, n')) (show xss.length - (k + 1) < xss.length - k by omega) ⟨(by omega : k + 1 ≤ xss.length), (by omega : 0 ≤ n'), (by omega : n' = m - xss.length - ttot (xss.take (k + 1)))⟩ ?_
        conv => whnf
        repeat' (first
          | exact trivial | exact rfl
          | exact pureL_tn _ _ | refine And.intro ?_ ?_
          | exact Nat.le_of_ble_eq_true rfl | exact int_eq (by rw [IntWalk.i64_in _ (by omega)] <;> omega))
      · have := ttot_all (xss := xss) (k := k) (by omega)
        exact retP1 (L := []) (by simp) rfl rfl ⟨_, rfl, rfl, .inr (by omega)⟩
theorem szTensorS_call {c : Nat} {xss : List T2} {m : Int} {env : List AV} {rows : List Row} {ctr low : Nat} {k : AV → St → Prop} (hpre : 0 ≤ m ∧ m ≤ 1048576) (hk : ∀ q : Int, (q < 0 ∨ (0 ≤ q ∧ q = m - ((xss.length + ttot xss : Nat) : Int))) → k (.int .i64 q) ⟨env, rows, ctr + 1, low⟩) :
    CallB Tryz.prog 15 ⟨env, rows, ctr, low⟩ [.sl c xss.length (xss.flatMap (tnC c)), .int .i64 m] k := callP_in szTensorS_sound (c, xss, m) hpre (by
  rintro r news ⟨n, rfl, rfl, h⟩
  simpa [AV.back, St.news] using hk n h)
def eSize (xss : List (List Int)) (ns : List Nd) : Nat := xss.length + tot xss + (ns.length + ntot ns)
set_option maxRecDepth 10000 in
theorem szExpr_sound : Sound Tryz.prog 8 (fnP (ι := Nat × List (List Int) × List Nd × Int) (fun | (c, xss, ns, m) => [.agg [.sl c xss.length (xss.map (slI c)), .sl c ns.length (ns.flatMap (ndC c))], .int .i64 m]) (fun | (_, _, _, m) => 0 ≤ m ∧ m ≤ 1048576) (fun | (_, xss, ns, m) => leftN (eSize xss ns) m)) := by
  refine sound_of Tryz.func8 rfl (enters_of Tryz.func8 (by kernel_rfl) (by kernel_rfl)) ?_
  rintro ⟨c, xss, ns, m⟩ hpre
  have hpre : 0 ≤ m ∧ m ≤ 1048576 := hpre
  conv => whnf
  repeat' (first
    | ((first | refine aGet_in rfl ?_ | refine And.intro rfl (And.intro (List.cons_ne_nil _ _) ?_) | refine callG_t ?_ | refine append_same ?_ | refine And.intro (pureL_ii _ _) ?_ | refine And.intro (pureL_nd _ _) ?_ | refine szIntSS_call (by omega) (fun _ _ => ?_) | refine szNodeS_call (by omega) (fun _ _ => ?_)); conv => whnf) | (refine aIf_dec (fun _ => ?_) (fun _ => ?_) <;> conv => whnf))
  · exact retP1 (L := []) (by simp) rfl rfl ⟨_, rfl, rfl, .inl (by decide)⟩
  · exact retP1 (L := []) (by simp) rfl rfl ⟨_, rfl, rfl, .inl (by decide)⟩
  · exact retP1 (L := []) (by simp) rfl rfl ⟨_, rfl, rfl, .inr (by unfold eSize; omega)⟩
theorem szExpr_call {c : Nat} {xss : List (List Int)} {ns : List Nd} {m : Int} {env : List AV} {rows : List Row} {ctr low : Nat} {k : AV → St → Prop} (hpre : 0 ≤ m ∧ m ≤ 1048576) (hk : ∀ q : Int, (q < 0 ∨ (0 ≤ q ∧ q = m - ((eSize xss ns : Nat) : Int))) → k (.int .i64 q) ⟨env, rows, ctr + 1, low⟩) :
    CallB Tryz.prog 8 ⟨env, rows, ctr, low⟩ [.agg [.sl c xss.length (xss.map (slI c)), .sl c ns.length (ns.flatMap (ndC c))], .int .i64 m] k := callP_in szExpr_sound (c, xss, ns, m) hpre (by
  rintro r news ⟨n, rfl, rfl, h⟩
  simpa [AV.back, St.news] using hk n h)
theorem getD_extG {α : Type} {d : α} {xs ys : List α} (hl : xs.length = ys.length) (h : ∀ j, j < ys.length → xs.getD j d = ys.getD j d) : xs = ys := by
  refine List.ext_getElem hl fun j h1 h2 => ?_
  have := h j h2
  simpa [List.getD, List.getElem?_eq_getElem h1, List.getElem?_eq_getElem h2] using this
set_option maxRecDepth 10000 in
theorem eqIntSS_sound : Sound Tryz.prog 45 (fnS (ι := Nat × List (List Int) × Nat × List (List Int)) (fun | (c, xss, d, yss) => [.sl c xss.length (xss.map (slI c)), .sl d yss.length (yss.map (slI d))]) (fun _ => True) (fun | (_, xss, _, yss) => .bool (decide (xss = yss)))) := by
  refine sound_of Tryz.func45 rfl (enters_of Tryz.func45 (by kernel_rfl) (by kernel_rfl)) ?_
  rintro ⟨c, xss, d, yss⟩ -
  have hmax : maxLen = 9223372036854775807 := rfl
  conv => whnf
  repeat' (first
    | ((first | refine plan_in (id := 6) [0, 1, 2, 3, 4, 5, 6, 7, 8, 9] (by kernel_rfl) (by kernel_rfl) ?_ | refine fun (_ : _ ≤ maxLen) => ?_ | refine append_same ?_); conv => whnf) | refine aIf_not ?_
    | (refine aIf_dec (fun _ => ?_) (fun _ => ?_) <;> conv => whnf))
  · have hl : yss.length = xss.length := by omega
    refine loop_u (ι := Nat) [true, true, false, false, false, true, false, false, false, false, false, false, false, false, false, false, false, false, false, false, false, false, false, false, false, false, false] (fun k => [(5, .int .i64 k)]) (fun _ => []) (fun k => k ≤ xss.length ∧ ∀ j, j < k → xss.getD j [] = yss.getD j []) (fun k => xss.length - k) (0) ⟨Nat.zero_le _, fun j hj => absurd hj (Nat.not_lt_zero _)⟩ ?_ ?_
    · conv => whnf
      repeat' (first
        | exact trivial | exact rfl
        | exact pureL_ii _ _ | refine And.intro ?_ ?_
        | exact Nat.le_of_ble_eq_true rfl)
    · rintro k ⟨hk, hall⟩
      conv => whnf
      repeat' (first
        | ((first | refine plan_in (id := 6) [0, 1, 2, 3, 4, 5, 6, 7, 8, 9] (by kernel_rfl) (by kernel_rfl) ?_ | refine fun (_ : _ ≤ maxLen) => ?_ | refine And.intro (by omega) ?_ | refine append_same ?_ | refine get_ii_n (by omega) ?_ | refine And.intro (pureL_ints _ _) ?_ | refine eqIntS_call ?_); conv => whnf) | refine aIf_not ?_
        | (refine aIf_dec (fun _ => ?_) (fun _ => ?_) <;> conv => whnf))
      · refine next_u (k + 1) (by omega) ⟨by omega, fun j hj => ?_⟩ ?_
        · rcases Nat.lt_succ_iff_lt_or_eq.1 hj with h1 | rfl
          · exact hall j h1
          · assumption
        · conv => whnf
          repeat' (first
            | exact trivial | exact rfl
            | exact pureL_ii _ _ | refine And.intro ?_ ?_
            | exact Nat.le_of_ble_eq_true rfl | exact int_eq (by rw [IntWalk.i64_in _ (by omega)] <;> omega))
      · refine retS rfl (congrArg AV.bool ?_)
        symm; rw [decide_eq_false_iff_not]; rintro rfl; contradiction
      · refine retS rfl (congrArg AV.bool ?_)
        symm; rw [decide_eq_true_iff]
        exact getD_extG (d := []) (by omega) fun j hj => hall j (by omega)
  · refine retS rfl (congrArg AV.bool ?_)
    symm; rw [decide_eq_false_iff_not]; rintro rfl; omega
theorem eqIntSS_call {c d : Nat} {xss yss : List (List Int)} {env : List AV} {rows : List Row} {ctr low : Nat} {k : AV → St → Prop} (hpre : True) (h : k (.bool (decide (xss = yss))) ⟨env, rows, ctr + 1, low⟩) :
    CallB Tryz.prog 45 ⟨env, rows, ctr, low⟩ [.sl c xss.length (xss.map (slI c)), .sl d yss.length (yss.map (slI d))] k := callS_in eqIntSS_sound (c, xss, d, yss) hpre rfl h
set_option maxRecDepth 10000 in
theorem eqNode_sound : Sound Tryz.prog 92 (fnS (ι := Nat × Nd × Nat × Nd) (fun | (c, n, d, m) => [.agg [.int .i64 n.op, .int .i64 n.a, .int .i64 n.b, .sl c n.l.length (n.l.map (.int .i64))], .agg [.int .i64 m.op, .int .i64 m.a, .int .i64 m.b, .sl d m.l.length (m.l.map (.int .i64))]]) (fun _ => True) (fun | (_, n, _, m) => .bool (decide (n = m)))) := by
  refine sound_of Tryz.func92 rfl (enters_of Tryz.func92 (by kernel_rfl) (by kernel_rfl)) ?_
  rintro ⟨c, n, d, m⟩ -
  conv => whnf
  repeat' (first
    | ((first | refine aGet_in rfl ?_ | refine And.intro rfl (And.intro (List.cons_ne_nil _ _) ?_) | refine callG_t ?_ | refine append_same ?_ | refine And.intro (pureL_ints _ _) ?_ | refine eqIntS_call ?_); conv => whnf) | refine aIf_not ?_
    | (refine aIf_dec (fun _ => ?_) (fun _ => ?_) <;> conv => whnf))
  all_goals refine retS rfl (congrArg AV.bool ?_)
  all_goals (cases n; cases m; simp_all)
theorem eqNode_call {c d : Nat} {n m : Nd} {env : List AV} {rows : List Row} {ctr low : Nat} {k : AV → St → Prop} (hpre : True) (h : k (.bool (decide (n = m))) ⟨env, rows, ctr + 1, low⟩) :
    CallB Tryz.prog 92 ⟨env, rows, ctr, low⟩ [.agg [.int .i64 n.op, .int .i64 n.a, .int .i64 n.b, .sl c n.l.length (n.l.map (.int .i64))], .agg [.int .i64 m.op, .int .i64 m.a, .int .i64 m.b, .sl d m.l.length (m.l.map (.int .i64))]] k := callS_in eqNode_sound (c, n, d, m) hpre rfl h
set_option maxRecDepth 10000 in
theorem eqNodeS_sound : Sound Tryz.prog 46 (fnS (ι := Nat × List Nd × Nat × List Nd) (fun | (c, xss, d, yss) => [.sl c xss.length (xss.flatMap (ndC c)), .sl d yss.length (yss.flatMap (ndC d))]) (fun _ => True) (fun | (_, xss, _, yss) => .bool (decide (xss = yss)))) := by
  refine sound_of Tryz.func46 rfl (enters_of Tryz.func46 (by kernel_rfl) (by kernel_rfl)) ?_
  rintro ⟨c, xss, d, yss⟩ -
  have hmax : maxLen = 9223372036854775807 := rfl
  conv => whnf
  repeat' (first
    | ((first | refine plan_in (id := 6) [0, 1, 2, 3, 4, 5, 6, 7, 8, 9] (by kernel_rfl) (by kernel_rfl) ?_ | refine fun (_ : _ ≤ maxLen) => ?_ | refine append_same ?_); conv => whnf) | refine aIf_not ?_
    | (refine aIf_dec (fun _ => ?_) (fun _ => ?_) <;> conv => whnf))
  · have hl : yss.length = xss.length := by omega
    refine loop_u (ι := Nat) [true, true, false, false, false, true, false, false, false, false, false, false, false, false, false, false, false, false, false, false, false, false, false, false, false, false, false] (fun k => [(5, .int .i64 k)]) (fun _ => []) (fun k => k ≤ xss.length ∧ ∀ j, j < k → xss.getD j default = yss.getD j default) (fun k => xss.length - k) (0) ⟨Nat.zero_le _, fun j hj => absurd hj (Nat.not_lt_zero _)⟩ ?_ ?_
    · conv => whnf
      repeat' (first
        | exact trivial | exact rfl
        | exact pureL_nd _ _ | refine And.intro ?_ ?_
        | exact Nat.le_of_ble_eq_true rfl)
    · rintro k ⟨hk, hall⟩
      conv => whnf
      repeat' (first
        | ((first | refine plan_in (id := 6) [0, 1, 2, 3, 4, 5, 6, 7, 8, 9] (by kernel_rfl) (by kernel_rfl) ?_ | refine fun (_ : _ ≤ maxLen) => ?_ | refine And.intro (by omega) ?_ | refine append_same ?_ | refine part_nd_n (by omega) ?_ | refine eqNode_call trivial ?_ | refine And.intro (pureL_ints _ _) ?_); conv => whnf) | refine aIf_not ?_
        | (refine aIf_dec (fun _ => ?_) (fun _ => ?_) <;> conv => whnf))
      · refine next_u (k + 1) (by omega) ⟨by omega, fun j hj => ?_⟩ ?_
        · rcases Nat.lt_succ_iff_lt_or_eq.1 hj with h1 | rfl
          · exact hall j h1
          · assumption
        · conv => whnf
          repeat' (first
            | exact trivial | exact rfl
            | exact pureL_nd _ _ | refine And.intro ?_ ?_
            | exact Nat.le_of_ble_eq_true rfl | exact int_eq (by rw [IntWalk.i64_in _ (by omega)] <;> omega))
      · refine retS rfl (congrArg AV.bool ?_)
        symm; rw [decide_eq_false_iff_not]; rintro rfl; contradiction
      · refine retS rfl (congrArg AV.bool ?_)
        symm; rw [decide_eq_true_iff]
        exact getD_extG (d := default) (by omega) fun j hj => hall j (by omega)
  · refine retS rfl (congrArg AV.bool ?_)
    symm; rw [decide_eq_false_iff_not]; rintro rfl; omega
theorem eqNodeS_call {c d : Nat} {xss yss : List Nd} {env : List AV} {rows : List Row} {ctr low : Nat} {k : AV → St → Prop} (hpre : True) (h : k (.bool (decide (xss = yss))) ⟨env, rows, ctr + 1, low⟩) :
    CallB Tryz.prog 46 ⟨env, rows, ctr, low⟩ [.sl c xss.length (xss.flatMap (ndC c)), .sl d yss.length (yss.flatMap (ndC d))] k := callS_in eqNodeS_sound (c, xss, d, yss) hpre rfl h
set_option maxRecDepth 10000 in
theorem eqTensorS_sound : Sound Tryz.prog 20 (fnS (ι := Nat × List T2 × Nat × List T2) (fun | (c, xss, d, yss) => [.sl c xss.length (xss.flatMap (tnC c)), .sl d yss.length (yss.flatMap (tnC d))]) (fun _ => True) (fun | (_, xss, _, yss) => .bool (decide (xss = yss)))) := by
  refine sound_of Tryz.func20 rfl (enters_of Tryz.func20 (by kernel_rfl) (by kernel_rfl)) ?_
  rintro ⟨c, xss, d, yss⟩ -
  have hmax : maxLen = 9223372036854775807 := rfl
  conv => whnf
  repeat' (first
    | ((first | refine plan_in (id := 6) [0, 1, 2, 3, 4, 5, 6, 7, 8, 9] (by kernel_rfl) (by kernel_rfl) ?_ | refine fun (_ : _ ≤ maxLen) => ?_ | refine append_same ?_); conv => whnf) | refine aIf_not ?_
    | (refine aIf_dec (fun _ => ?_) (fun _ => ?_) <;> conv => whnf))
  · have hl : yss.length = xss.length := by omega
    refine loop_u (ι := Nat) [true, true, false, false, false, true, false, false, false, false, false, false, false, false, false, false, false, false, false, false, false, false, false, false, false, false, false] (fun k => [(5, .int .i64 k)]) (fun _ => []) (fun k => k ≤ xss.length ∧ ∀ j, j < k → xss.getD j ([], []) = yss.getD j ([], [])) (fun k => xss.length - k) (0) ⟨Nat.zero_le _, fun j hj => absurd hj (Nat.not_lt_zero _)⟩ ?_ ?_
    · conv => whnf
      repeat' (first
        | exact trivial | exact rfl
        | exact pureL_tn _ _ | refine And.intro ?_ ?_
        | exact Nat.le_of_ble_eq_true rfl)
    · rintro k ⟨hk, hall⟩
      conv => whnf
      repeat' (first
        | ((first | refine plan_in (id := 6) [0, 1, 2, 3, 4, 5, 6, 7, 8, 9] (by kernel_rfl) (by kernel_rfl) ?_ | refine fun (_ : _ ≤ maxLen) => ?_ | refine And.intro (by omega) ?_ | refine eqTensor_call ?_ | refine append_same ?_ | refine part_tn_n (by omega) ?_ | refine And.intro (pureL_ints _ _) ?_); conv => whnf) | refine aIf_not ?_
        | (refine aIf_dec (fun _ => ?_) (fun _ => ?_) <;> conv => whnf))
      · refine next_u (k + 1) (by omega) ⟨by omega, fun j hj => ?_⟩ ?_
        · rcases Nat.lt_succ_iff_lt_or_eq.1 hj with h1 | rfl
          · exact hall j h1
          · assumption
        · conv => whnf
          repeat' (first
            | exact trivial | exact rfl
            | exact pureL_tn _ _ | refine And.intro ?_ ?_
            | exact Nat.le_of_ble_eq_true rfl | exact int_eq (by rw [IntWalk.i64_in _ (by omega)] <;> omega))
      · refine retS rfl (congrArg AV.bool ?_)
        symm; rw [decide_eq_false_iff_not]; rintro rfl; contradiction
      · refine retS rfl (congrArg AV.bool ?_)
        symm; rw [decide_eq_true_iff]
        exact getD_extG (d := ([], [])) (by omega) fun j hj => hall j (by omega)
  · refine retS rfl (congrArg AV.bool ?_)
    symm; rw [decide_eq_false_iff_not]; rintro rfl; omega
theorem eqTensorS_call {c d : Nat} {xss yss : List T2} {env : List AV} {rows : List Row} {ctr low : Nat} {k : AV → St → Prop} (hpre : True) (h : k (.bool (decide (xss = yss))) ⟨env, rows, ctr + 1, low⟩) :
    CallB Tryz.prog 20 ⟨env, rows, ctr, low⟩ [.sl c xss.length (xss.flatMap (tnC c)), .sl d yss.length (yss.flatMap (tnC d))] k := callS_in eqTensorS_sound (c, xss, d, yss) hpre rfl h
set_option maxRecDepth 10000 in
theorem eqExpr_sound : Sound Tryz.prog 12 (fnS (ι := (Nat × List (List Int) × List Nd) × (Nat × List (List Int) × List Nd)) (fun | ((c, xss, ns), (d, yss, ms)) => [.agg [.sl c xss.length (xss.map (slI c)), .sl c ns.length (ns.flatMap (ndC c))], .agg [.sl d yss.length (yss.map (slI d)), .sl d ms.length (ms.flatMap (ndC d))]]) (fun _ => True) (fun | ((_, xss, ns), (_, yss, ms)) => .bool (decide ((xss, ns) = (yss, ms))))) := by
  refine sound_of Tryz.func12 rfl (enters_of Tryz.func12 (by kernel_rfl) (by kernel_rfl)) ?_
  rintro ⟨⟨c, xss, ns⟩, ⟨d, yss, ms⟩⟩ -
  conv => whnf
  repeat' (first
    | ((first | refine aGet_in rfl ?_ | refine And.intro rfl (And.intro (List.cons_ne_nil _ _) ?_) | refine callG_t ?_ | refine append_same ?_ | refine And.intro (pureL_ii _ _) ?_ | refine And.intro (pureL_nd _ _) ?_ | refine eqIntSS_call trivial ?_ | refine eqNodeS_call trivial ?_); conv => whnf) | refine aIf_not ?_
    | (refine aIf_dec (fun _ => ?_) (fun _ => ?_) <;> conv => whnf))
  all_goals refine retS rfl (congrArg AV.bool ?_)
  all_goals simp_all
theorem eqExpr_call {c d : Nat} {xss yss : List (List Int)} {ns ms : List Nd} {env : List AV} {rows : List Row} {ctr low : Nat} {k : AV → St → Prop} (hpre : True) (h : k (.bool (decide ((xss, ns) = (yss, ms)))) ⟨env, rows, ctr + 1, low⟩) :
    CallB Tryz.prog 12 ⟨env, rows, ctr, low⟩ [.agg [.sl c xss.length (xss.map (slI c)), .sl c ns.length (ns.flatMap (ndC c))], .agg [.sl d yss.length (yss.map (slI d)), .sl d ms.length (ms.flatMap (ndC d))]] k := callS_in eqExpr_sound ((c, xss, ns), (d, yss, ms)) hpre rfl h
end Go.Proofs.YtjmdhfjemaoebaaGreat
namespace Go.Proofs.YtjmdhfjemaoebaaGreat
set_option maxRecDepth 20000
open Go.RowKit Go.Am
attribute [local irreducible] aPlan aGet aIf aLoop aCall RetB NextB CallB CallG aCut aSet aAppend
theorem le_fillF_len {α : Type} {f : α → List AV} {z : Nat} (hz : ∀ x, (f x).length = z) {l : List α} {k : Nat} {us : List AV} (hu : us.length = z) (h : k < l.length) : 0 + (k : Int).toNat * z + z ≤ (fillF f l k us).length := by
  rw [fillF_length hz hu (Nat.le_of_lt h), Nat.zero_add, Int.toNat_natCast, ← Nat.succ_mul]; exact Nat.mul_le_mul_right z h
theorem len_le_tot {xss : List (List Int)} {k : Nat} (h : k < xss.length) : (xss.getD k []).length ≤ tot xss := getD_le_sum _ [] h
theorem len_le_ntot {xss : List Nd} {k : Nat} (h : k < xss.length) : (xss.getD k default).l.length ≤ ntot xss := getD_le_sum (fun n : Nd => n.l.length) default h
theorem len_le_ttot {xss : List T2} {k : Nat} (h : k < xss.length) : (xss.getD k ([], [])).1.length + (xss.getD k ([], [])).2.length ≤ ttot xss := getD_le_sum (fun t : T2 => t.1.length + t.2.length) ([], []) h
set_option maxHeartbeats 4000000 in
theorem toIntSS_sound : Sound Tryz.prog 39 (fnR (ι := Nat × List (List Int)) 38 1 (fun | (c, xss) => [.sl c xss.length (xss.map (slI c))]) (fun | (_, xss) => xss.length ≤ 1048576 ∧ tot xss ≤ 1048576) (fun | (_, xss) => xss.length) (fun | (_, xss) => xss.map (ownI 3))) := by
  refine sound_of Tryz.func39 rfl (enters_of Tryz.func39 (by kernel_rfl) (by kernel_rfl)) ?_
  rintro ⟨c, xss⟩ hpre
  have hpre : xss.length ≤ 1048576 ∧ tot xss ≤ 1048576 := hpre
  conv => whnf
  repeat' (first
    | ((first | refine fun (_ : _ ≤ maxLen) => ?_ | refine append_same ?_ | refine And.intro (And.intro (Int.le_refl _) (And.intro (by kernel_rfl) (And.intro rfl (by kernel_rfl)))) (And.intro (And.intro (by omega) (And.intro (bytes_le (b := 24) rfl (by omega)) (by omega))) ?_)); conv => whnf))
  refine loop_ut (ι := Nat) [true, false, false, true, true, false, false, false, false, false, false, false, false, false, false, false, false, false, false, false, false, false, false] (fun k => [(4, .int .i64 k)]) (fun k => [(1, fillC (ownI 3) xss k .nil)]) (fun k => k ≤ xss.length) (fun k => xss.length - k) (0) (Nat.zero_le _) ?_ ?_
  · conv => whnf
    refine St.le.to ?_
    conv => whnf
    repeat' (first | exact le_fillC (ownI_pure _) rfl | refine And.intro ?_ ?_)
    repeat' (first
      | exact trivial | exact rfl
      | exact Or.inl (And.intro rfl rfl) | exact pureL_ii _ _
      | exact Nat.le_of_ble_eq_true rfl)
  · rintro k hk
    have hk : k ≤ xss.length := hk
    have hl : k < xss.length → (xss.getD k []).length ≤ 1048576 := fun h => by have := len_le_tot h; omega
    conv => whnf
    repeat' (first
      | ((first | refine fun (_ : _ ≤ maxLen) => ?_ | refine And.intro (by omega) ?_ | refine callG_t ?_ | refine append_same ?_ | refine get_ii_n (by omega) ?_ | refine And.intro rfl (And.intro rfl (And.intro (by rw [fillC_length (by omega)]; omega) ?_)) | refine set_fillC (by omega) (by omega) ?_ | refine And.intro (pureL_ints _ _) ?_ | refine toIntS_call (by omega) ?_); conv => whnf) | (refine aIf_dec (fun _ => ?_) (fun _ => ?_) <;> conv => whnf))
    · rename_i hlt
      have hk' : k < xss.length := by omega
      refine next_ut (k + 1) (by omega) (by show k + 1 ≤ _; omega) ?_
      conv => whnf
      refine to_close 1 k 2 3 _ 1 3 _ _ rfl (get_fillC hk') rfl (by decide) (Nat.zero_le _) (by decide) (by simp) ?_
      refine St.le.to ?_
      conv => whnf
      repeat' (first | exact le_closeC [] hk' rfl (ownI_pure _) rfl | refine And.intro ?_ ?_)
      repeat' (first
        | exact trivial | exact rfl
        | exact Or.inl (And.intro rfl rfl) | exact pureL_ii _ _
        | exact Nat.le_of_ble_eq_true rfl | exact int_eq (by rw [IntWalk.i64_in _ (by omega)] <;> omega))
    · have e := fillC_all (f := ownI 3) (l := xss) (k := k) (u := .nil) (by omega)
      rw [e]
      refine retR rfl (protL_oi _ _) ?_ rfl
      simp
theorem toIntSS_call {c : Nat} {xss : List (List Int)} {env : List AV} {rows : List Row} {ctr low : Nat} {k : AV → St → Prop} (hpre : xss.length ≤ 1048576 ∧ tot xss ≤ 1048576) (h : k (.ref rows.length ctr 0 xss.length) ⟨env, rows ++ [⟨ctr, 38, 1, xss.map (ownI 3)⟩], ctr + 1, low⟩) :
    CallB Tryz.prog 39 ⟨env, rows, ctr, low⟩ [.sl c xss.length (xss.map (slI c))] k := callR_in toIntSS_sound (c, xss) hpre (protL_oi _ _) h
theorem toNode_sound : Sound Tryz.prog 83 (fnN (ι := Nat × Nd) 3 (fun | (c, n) => [.agg [.int .i64 n.op, .int .i64 n.a, .int .i64 n.b, .sl c n.l.length (n.l.map (.int .i64))]]) (fun | (_, n) => n.l.length ≤ 1048576) (fun | (_, n) => n)) := by
  refine sound_of Tryz.func83 rfl (enters_of Tryz.func83 (by kernel_rfl) (by kernel_rfl)) ?_
  rintro ⟨c, n⟩ hpre
  have hpre : n.l.length ≤ 1048576 := hpre
  conv => whnf
  repeat' (first
    | ((first | refine aGet_in rfl ?_ | refine load_same ?_ | refine And.intro rfl (And.intro (List.cons_ne_nil _ _) ?_) | refine And.intro (Nat.le_of_ble_eq_true rfl) ?_ | refine callG_t ?_ | refine append_same ?_ | refine takeN_in ?_ | refine And.intro (pureL_ints _ _) ?_ | refine toIntS_call (by omega) ?_ | refine set_force ?_ | refine And.intro (by kernel_rfl) ?_); conv => whnf))
  exact retN rfl rfl rfl
theorem toNode_call {c : Nat} {n : Nd} {env : List AV} {rows : List Row} {ctr low : Nat} {k : AV → St → Prop} (hpre : n.l.length ≤ 1048576) (h : k (.agg [.int .i64 n.op, .int .i64 n.a, .int .i64 n.b, .ref rows.length ctr 0 n.l.length]) ⟨env, rows ++ [⟨ctr, 3, 1, n.l.map (.int .i64)⟩], ctr + 1, low⟩) :
    CallB Tryz.prog 83 ⟨env, rows, ctr, low⟩ [.agg [.int .i64 n.op, .int .i64 n.a, .int .i64 n.b, .sl c n.l.length (n.l.map (.int .i64))]] k := callN_in toNode_sound (c, n) hpre h
set_option maxHeartbeats 4000000 in
theorem toNodeS_sound : Sound Tryz.prog 40 (fnR (ι := Nat × List Nd) 75 4 (fun | (c, xss) => [.sl c xss.length (xss.flatMap (ndC c))]) (fun | (_, xss) => xss.length ≤ 1048576 ∧ ntot xss ≤ 1048576) (fun | (_, xss) => xss.length) (fun | (_, xss) => xss.flatMap (ndO 3))) := by
  refine sound_of Tryz.func40 rfl (enters_of Tryz.func40 (by kernel_rfl) (by kernel_rfl)) ?_
  rintro ⟨c, xss⟩ hpre
  have hpre : xss.length ≤ 1048576 ∧ ntot xss ≤ 1048576 := hpre
  conv => whnf
  repeat' (first
    | ((first | refine fun (_ : _ ≤ maxLen) => ?_ | refine append_same ?_ | refine And.intro (And.intro (Int.le_refl _) (And.intro (by kernel_rfl) (And.intro rfl (by kernel_rfl)))) (And.intro (And.intro (by omega) (And.intro (bytes_le (b := 48) rfl (by omega)) (by omega))) ?_)); conv => whnf))
  refine loop_ut (ι := Nat) [true, false, false, true, true, false, false, false, false, false, false, false, false, false, false, false, false, false, false, false, false, false, false] (fun k => [(4, .int .i64 k)]) (fun k => [(1, fillF (ndO 3) xss k [.int .i64 0, .int .i64 0, .int .i64 0, .nil])]) (fun k => k ≤ xss.length) (fun k => xss.length - k) (0) (Nat.zero_le _) ?_ ?_
  · conv => whnf
    refine St.le.to ?_
    conv => whnf
    repeat' (first | exact le_fillF (ndO_pure _) rfl | refine And.intro ?_ ?_)
    repeat' (first
      | exact trivial | exact rfl
      | exact Or.inl (And.intro rfl rfl) | exact pureL_nd _ _
      | exact Nat.le_of_ble_eq_true rfl)
  · rintro k hk
    have hk : k ≤ xss.length := hk
    have hl : k < xss.length → (xss.getD k default).l.length ≤ 1048576 := fun h => by have := len_le_ntot h; omega
    conv => whnf
    repeat' (first
      | ((first | refine fun (_ : _ ≤ maxLen) => ?_ | refine And.intro (by omega) ?_ | refine callG_t ?_ | refine append_same ?_ | refine part_nd_n (by omega) ?_ | refine And.intro (le_fillF_len (ndO_length _) rfl (by omega)) ?_ | refine set_fillF (ndO_length _) (by omega) rfl ?_ | refine toNode_call (by omega) ?_ | refine And.intro (pureL_ints _ _) ?_ | refine And.intro (by kernel_rfl) ?_); conv => whnf) | (refine aIf_dec (fun _ => ?_) (fun _ => ?_) <;> conv => whnf))
    · rename_i hlt
      have hk' : k < xss.length := by omega
      refine next_ut (k + 1) (by omega) (by show k + 1 ≤ _; omega) ?_
      conv => whnf
      refine to_close 1 (k * 4 + 3) 2 3 _ 1 3 _ _ rfl (get_fillF (ndO_length _) hk' rfl) rfl (by decide) (Nat.zero_le _) (by decide) (by simp) ?_
      refine St.le.to ?_
      conv => whnf
      repeat' (first | exact le_closeF (ndO_length _) default hk' (by simp) rfl (ndO_pure _) rfl | refine And.intro ?_ ?_)
      repeat' (first
        | exact trivial | exact rfl
        | exact Or.inl (And.intro rfl rfl) | exact pureL_nd _ _
        | exact Nat.le_of_ble_eq_true rfl | exact int_eq (by rw [IntWalk.i64_in _ (by omega)] <;> omega))
    · have e := fillF_all (f := ndO 3) (l := xss) (k := k) (us := [.int .i64 0, .int .i64 0, .int .i64 0, .nil]) (by omega)
      rw [e]
      refine retR rfl (protL_ond _ _) ?_ rfl
      simp
theorem toNodeS_call {c : Nat} {xss : List Nd} {env : List AV} {rows : List Row} {ctr low : Nat} {k : AV → St → Prop} (hpre : xss.length ≤ 1048576 ∧ ntot xss ≤ 1048576) (h : k (.ref rows.length ctr 0 xss.length) ⟨env, rows ++ [⟨ctr, 75, 4, xss.flatMap (ndO 3)⟩], ctr + 1, low⟩) :
    CallB Tryz.prog 40 ⟨env, rows, ctr, low⟩ [.sl c xss.length (xss.flatMap (ndC c))] k := callR_in toNodeS_sound (c, xss) hpre (protL_ond _ _) h
set_option maxHeartbeats 4000000 in
theorem toTensorS_sound : Sound Tryz.prog 17 (fnR (ι := Nat × List T2) 40 2 (fun | (c, xss) => [.sl c xss.length (xss.flatMap (tnC c))]) (fun | (_, xss) => xss.length ≤ 1048576 ∧ ttot xss ≤ 1048576) (fun | (_, xss) => xss.length) (fun | (_, xss) => xss.flatMap (tnO 3))) := by
  refine sound_of Tryz.func17 rfl (enters_of Tryz.func17 (by kernel_rfl) (by kernel_rfl)) ?_
  rintro ⟨c, xss⟩ hpre
  have hpre : xss.length ≤ 1048576 ∧ ttot xss ≤ 1048576 := hpre
  conv => whnf
  repeat' (first
    | ((first | refine fun (_ : _ ≤ maxLen) => ?_ | refine append_same ?_ | refine And.intro (And.intro (Int.le_refl _) (And.intro (by kernel_rfl) (And.intro rfl (by kernel_rfl)))) (And.intro (And.intro (by omega) (And.intro (bytes_le (b := 48) rfl (by omega)) (by omega))) ?_)); conv => whnf))
  refine loop_ut (ι := Nat) [true, false, false, true, true, false, false, false, false, false, false, false, false, false, false, false, false, false, false, false, false, false, false] (fun k => [(4, .int .i64 k)]) (fun k => [(1, fillF (tnO 3) xss k [.nil, .nil])]) (fun k => k ≤ xss.length) (fun k => xss.length - k) (0) (Nat.zero_le _) ?_ ?_
  · conv => whnf
    refine St.le.to ?_
    conv => whnf
    repeat' (first | exact le_fillF (tnO_pure _) rfl | refine And.intro ?_ ?_)
    repeat' (first
      | exact trivial | exact rfl
      | exact Or.inl (And.intro rfl rfl) | exact pureL_tn _ _
      | exact Nat.le_of_ble_eq_true rfl)
  · rintro k hk
    have hk : k ≤ xss.length := hk
    have hl : k < xss.length → (xss.getD k ([], [])).1.length + (xss.getD k ([], [])).2.length ≤ 1048576 := fun h => by have := len_le_ttot h; omega
    conv => whnf
    repeat' (first
      | ((first | refine fun (_ : _ ≤ maxLen) => ?_ | refine And.intro (by omega) ?_ | refine callG_t ?_ | refine toTensor_call (by omega) ?_ | refine append_same ?_ | refine part_tn_n (by omega) ?_ | refine And.intro (le_fillF_len (tnO_length _) rfl (by omega)) ?_ | refine set_fillF (tnO_length _) (by omega) rfl ?_ | refine And.intro (pureL_ints _ _) ?_ | refine And.intro (by kernel_rfl) ?_); conv => whnf) | (refine aIf_dec (fun _ => ?_) (fun _ => ?_) <;> conv => whnf))
    · rename_i hlt
      have hk' : k < xss.length := by omega
      refine next_ut (k + 1) (by omega) (by show k + 1 ≤ _; omega) ?_
      conv => whnf
      refine to_close 1 (k * 2 + 0) 2 3 _ 1 3 _ _ rfl (get_fillF (tnO_length _) hk' rfl) rfl (by decide) (Nat.zero_le _) (by decide) (by simp) ?_
      refine to_close 1 (k * 2 + 1) 3 3 _ 1 3 _ _ rfl (get_fillF2 (tnO_length _) hk' (by simp) rfl) rfl (by decide) (Nat.zero_le _) (by decide) (by simp) ?_
      refine St.le.to ?_
      conv => whnf
      repeat' (first | exact le_closeF2 (tnO_length _) ([], []) hk' (by simp) (by simp) rfl (tnO_pure _) rfl | refine And.intro ?_ ?_)
      repeat' (first
        | exact trivial | exact rfl
        | exact Or.inl (And.intro rfl rfl) | exact pureL_tn _ _
        | exact Nat.le_of_ble_eq_true rfl | exact int_eq (by rw [IntWalk.i64_in _ (by omega)] <;> omega))
    · have e := fillF_all (f := tnO 3) (l := xss) (k := k) (us := [.nil, .nil]) (by omega)
      rw [e]
      refine retR rfl (protL_otn _ _) ?_ rfl
      simp
theorem toTensorS_call {c : Nat} {xss : List T2} {env : List AV} {rows : List Row} {ctr low : Nat} {k : AV → St → Prop} (hpre : xss.length ≤ 1048576 ∧ ttot xss ≤ 1048576) (h : k (.ref rows.length ctr 0 xss.length) ⟨env, rows ++ [⟨ctr, 40, 2, xss.flatMap (tnO 3)⟩], ctr + 1, low⟩) :
    CallB Tryz.prog 17 ⟨env, rows, ctr, low⟩ [.sl c xss.length (xss.flatMap (tnC c))] k := callR_in toTensorS_sound (c, xss) hpre (protL_otn _ _) h
theorem toExpr_sound : Sound Tryz.prog 10 (fnR2 (ι := Nat × List (List Int) × List Nd) 38 1 75 4 (fun | (c, xss, ns) => [.agg [.sl c xss.length (xss.map (slI c)), .sl c ns.length (ns.flatMap (ndC c))]]) (fun | (_, xss, ns) => eSize xss ns ≤ 1048576) (fun | (_, xss, _) => xss.length) (fun | (_, _, ns) => ns.length) (fun | (_, xss, _) => xss.map (ownI 3)) (fun | (_, _, ns) => ns.flatMap (ndO 3))) := by
  refine sound_of Tryz.func10 rfl (enters_of Tryz.func10 (by kernel_rfl) (by kernel_rfl)) ?_
  rintro ⟨c, xss, ns⟩ hpre
  have hpre : xss.length + tot xss + (ns.length + ntot ns) ≤ 1048576 := hpre
  conv => whnf
  repeat' (first
    | ((first | refine aGet_in rfl ?_ | refine load_same ?_ | refine And.intro rfl (And.intro (List.cons_ne_nil _ _) ?_) | refine And.intro (Nat.le_of_ble_eq_true rfl) ?_ | refine callG_t ?_ | refine append_same ?_ | refine And.intro (pureL_ii _ _) ?_ | refine And.intro (pureL_nd _ _) ?_); conv => whnf) | (refine toIntSS_call (by constructor <;> omega) ?_; conv => whnf) | (refine toNodeS_call (by constructor <;> omega) ?_; conv => whnf) | ((first | refine takeN_in ?_ | refine set_force ?_ | refine And.intro (by kernel_rfl) ?_); conv => whnf))
  exact retR2 (by decide) rfl rfl (protL_oi _ _) (protL_ond _ _) rfl rfl rfl rfl
theorem toExpr_call {c : Nat} {xss : List (List Int)} {ns : List Nd} {env : List AV} {rows : List Row} {ctr low : Nat} {k : AV → St → Prop} (hpre : eSize xss ns ≤ 1048576) (h : k (.agg [.ref rows.length ctr 0 xss.length, .ref (rows.length + 1) ctr 0 ns.length]) ⟨env, rows ++ [⟨ctr, 38, 1, xss.map (ownI 3)⟩, ⟨ctr, 75, 4, ns.flatMap (ndO 3)⟩], ctr + 1, low⟩) :
    CallB Tryz.prog 10 ⟨env, rows, ctr, low⟩ [.agg [.sl c xss.length (xss.map (slI c)), .sl c ns.length (ns.flatMap (ndC c))]] k := callR2_in toExpr_sound (c, xss, ns) hpre (protL_oi _ _) (protL_ond _ _) h
end Go.Proofs.YtjmdhfjemaoebaaGreat
