import Derived.Test.YtjmdhfjemaoebaaGreatM01x30
import Derived.Test.YtjmdhfjemaoebaaGreatM01x16
import Derived.Test.YtjmdhfjemaoebaaGreatM01x29
namespace Go.Proofs.YtjmdhfjemaoebaaGreat
set_option maxRecDepth 20000
open Go.RowKit Go.Am
set_option linter.unusedSimpArgs false
attribute [local irreducible] aPlan aGet aIf aLoop aCall RetB NextB CallB CallG aCut aSet aAppend Held
set_option maxHeartbeats 16000000 in
theorem l3Value_11 : Sound Tryz.prog 75 (sL3V fun op => op = 11) := by
  refine sound_of Tryz.func75 rfl (enters_of Tryz.func75 (by kernel_rfl) (by kernel_rfl)) ?_
  rintro ⟨b, x, sh, d, vs, e, ts⟩ hpre
  have hpre : lPre x sh ts vs ∧ x.op = 11 := hpre
  obtain ⟨hp, hin⟩ := hpre
  have F := l_facts hp
  have hxl := hp.1.2.2.2.1
  have hmax : maxLen = 9223372036854775807 := rfl
  have t0 : Int.toNat 0 = 0 := rfl
  have t1 : Int.toNat 1 = 1 := rfl
  have t2 : Int.toNat 2 = 2 := rfl
  have o0 : x.op ≠ 0 := by omega
  have e0 : (x.op == 0) = false := beqf o0
  have o1 : x.op ≠ 1 := by omega
  have e1 : (x.op == 1) = false := beqf o1
  have o6 : x.op ≠ 6 := by omega
  have e6 : (x.op == 6) = false := beqf o6
  have o7 : x.op ≠ 7 := by omega
  have e7 : (x.op == 7) = false := beqf o7
  have o8 : x.op ≠ 8 := by omega
  have e8 : (x.op == 8) = false := beqf o8
  have o9 : x.op ≠ 9 := by omega
  have e9 : (x.op == 9) = false := beqf o9
  have o10 : x.op ≠ 10 := by omega
  have e10 : (x.op == 10) = false := beqf o10
  have e11 : (x.op == 11) = true := by rw [hin]; rfl
  have o12 : x.op ≠ 12 := by omega
  have e12 : (x.op == 12) = false := beqf o12
  have e25 : decide (2 ≤ x.op ∧ x.op ≤ 5) = false := decide_eq_false (by omega)
  obtain ⟨ga, gt⟩ := F.ia (by omega)
  have hl := allT_len hp.1.2.2.1 (show x.a.toNat < vs.length by omega)
  obtain ⟨gb, gu⟩ := F.ib (by omega)
  obtain ⟨g1, g2, g3⟩ := F.bes hin
  have hV : (vS x sh ts vs).2 = bsL (vs.getD x.a.toNat ([], [])).1 (vs.getD x.a.toNat ([], [])).2 (vs.getD x.b.toNat ([], [])).2 (x.l.getD (Int.toNat 0) 0).toNat ((vs.getD x.b.toNat ([], [])).1.getD (x.l.getD (Int.toNat 0) 0).toNat 0) := by unfold vS; rw [if_neg o0, if_neg o1, if_neg o6, if_neg o7, if_neg o8, if_neg o9, if_neg o10, if_pos hin]
  conv => whnf
  dsimp only
  repeat' (first
    | ((first | refine tree_in (id := 7) (.one 0 (.one 1 (.one 2 (.one 3 (.one 4 (.one 5 (.one 6 (.one 7 (.one 8 (.two 9 13 (.one 10 (.one 11 (.one 12 (.one 13 (.one 14 (.one 15 .nil)))))) (.one 9 (.one 10 (.one 11 (.one 12 (.one 14 (.one 15 .nil)))))))))))))))) (by kernel_rfl) (by kernel_rfl) ?_ | refine plan_in2 (id := 13) [0, 1, 2, 3, 4, 5, 6] (by kernel_rfl) (by kernel_rfl) ?_ | refine plan_in2 (id := 19) [0, 1, 2, 3, 4, 5, 6, 7, 8, 9, 10, 11, 12, 13, 14] (by kernel_rfl) (by kernel_rfl) ?_ | refine plan_in2 (id := 21) [0, 1, 2, 3, 4, 5, 6, 7, 8, 9, 10, 11, 12] (by kernel_rfl) (by kernel_rfl) ?_ | refine plan_in2 (id := 22) [0, 1, 2, 3, 4, 5, 6, 7] (by kernel_rfl) (by kernel_rfl) ?_ | refine get_int (by omega) ?_ | refine aGet_in rfl ?_ | refine And.intro (by omega) ?_ | refine load_same ?_ | refine And.intro rfl (And.intro (List.cons_ne_nil _ _) ?_) | refine And.intro (Nat.le_of_ble_eq_true rfl) ?_ | refine l2Beside_calli (by assumption) (by assumption) rfl rfl ?_ | refine callG_t ?_ | refine append_same ?_ | refine part_tn (by omega) ?_ | refine takeN_in ?_ | refine in_call ?_ | refine set_force ?_ | refine And.intro (by kernel_rfl) ?_ | refine aIf_tt (by assumption) ?_ | refine aIf_ff (by assumption) ?_); conv => whnf))
  all_goals (first | (exfalso; omega) | skip)
  exact retVA (show hbK x from .inr (.inr (.inr hin))) rfl hV rfl rfl
theorem l3V_or {p q r : Int → Prop} (h : ∀ op, r op → p op ∨ q op) (hp : Sound Tryz.prog 75 (sL3V p)) (hq : Sound Tryz.prog 75 (sL3V q)) : Sound Tryz.prog 75 (sL3V r) :=
  ⟨hp.1, fun x hx => by
    obtain ⟨b, x, sh, d, vs, e, ts⟩ := x
    have hx : lPre x sh ts vs ∧ r x.op := hx
    rcases h _ hx.2 with h1 | h1
    · exact hp.2 (b, x, sh, d, vs, e, ts) ⟨hx.1, h1⟩
    · exact hq.2 (b, x, sh, d, vs, e, ts) ⟨hx.1, h1⟩⟩
theorem l3Value_sound : Sound Tryz.prog 75 (sL3V fun op => 0 ≤ op ∧ op ≤ 12) := by
  refine l3V_or (p := fun op => op = 0 ∨ op = 1 ∨ op = 6 ∨ op = 7 ∨ op = 8) (q := fun op => op = 9 ∨ op = 10 ∨ op = 11 ∨ op = 12 ∨ (2 ≤ op ∧ op ≤ 5)) (fun op h => by omega) ?_ ?_
  · exact l3V_or (fun _ h => h) l3Value_0 (l3V_or (fun _ h => h) l3Value_1 (l3V_or (fun _ h => h) l3Value_6 (l3V_or (fun _ h => h) l3Value_7 l3Value_8)))
  · exact l3V_or (fun _ h => h) l3Value_9 (l3V_or (fun _ h => h) l3Value_10 (l3V_or (fun _ h => h) l3Value_11 (l3V_or (fun _ h => h) l3Value_12 l3Value_2)))
end Go.Proofs.YtjmdhfjemaoebaaGreat
namespace Go.Proofs.YtjmdhfjemaoebaaGreat
set_option maxRecDepth 20000
open Go.RowKit Go.Am
set_option linter.unusedSimpArgs false
theorem append_tr {env : List AV} {rows : List Row} {ctr low τ ver n τ' ver' r : Nat} {A : List AV} {u v : AV} {k : AV → St → Prop} (hr : rows[τ]? = some ⟨ver, 40, 2, A ++ (List.replicate r [AV.nil, AV.nil]).flatten⟩) (hn : A.length = n * 2) (hr' : rows[τ']? = some ⟨ver', 40, 2, [u, v]⟩) (hu : u.isOwn = false) (hv : v.isOwn = false) (hle : 1 ≤ r)
    (hk : k (.ref τ ver 0 (n + 1)) ⟨env, rows.set τ ⟨ver, 40, 2, A ++ ([u, v] ++ (List.replicate (r - 1) [AV.nil, AV.nil]).flatten)⟩, ctr, low⟩) : aAppend Tryz.prog ⟨env, rows, ctr, low⟩ 43 (.ref τ ver 0 n) (.ref τ' ver' 0 1) k := by
  have hb : (bsz Tryz.prog 40) = some 48 := by kernel_rfl
  have hz : zeroCellsA Tryz.prog 40 = some [.nil, .nil] := by kernel_rfl
  have hty : Tryz.prog.underlying 43 = some (.slice 40) := by kernel_rfl
  have hs : ∀ K : Nat → Prop, K 2 → aSz Tryz.prog 40 K := fun K h => by
    have : tsz Tryz.prog 40 = some 2 := by kernel_rfl
    unfold aSz; rw [this]; exact h
  have hlen : (A ++ (List.replicate r [AV.nil, AV.nil]).flatten).length = (n + r) * 2 := by
    rw [List.length_append, rep_length, hn, Nat.add_mul]; rfl
  unfold aAppend
  rw [hty]
  simp only
  rw [hz]
  simp only
  refine hs _ ?_
  unfold aElems aRow
  simp only [hr']
  rw [if_pos trivial, if_pos (.inr trivial)]
  refine ⟨⟨by simp, by simp [hu, hv]⟩, ⟨rfl, by rw [hb]; rfl, by rw [hb]; decide⟩, ?_⟩
  simp only [hr]
  rw [if_pos trivial, if_pos (by simp)]
  refine ⟨by rw [hlen]; exact Nat.mul_le_mul_right 2 (by omega), fun h => by omega, fun _ _ => ?_, fun _ h => ?_⟩
  · have e1 : (A ++ (List.replicate r [AV.nil, AV.nil]).flatten).take (n * 2) = A := by rw [← hn]; exact List.take_left
    have e2 : (A ++ (List.replicate r [AV.nil, AV.nil]).flatten).drop (n * 2 + [u, v].length) = (List.replicate (r - 1) [AV.nil, AV.nil]).flatten := by
      rw [← hn, ← List.drop_drop, List.drop_left]
      obtain ⟨m, rfl⟩ : ∃ m, r = m + 1 := ⟨r - 1, by omega⟩
      rw [List.replicate_succ, List.flatten_cons]; rfl
    simp only [Nat.zero_mul, List.drop_zero, Nat.one_mul, List.take_of_length_le (show [u, v].length ≤ 2 from Nat.le_refl _)]
    rw [e1, e2]
    simpa [St.setRow, Row.putC] using hk
  · exfalso; rw [hlen] at h; simp at h; omega
theorem cut_room {f : Nat} {t : TypeId} {vs : List T2} {B : List AV} {K : List AV → Prop} (hK : K (vs.flatMap (tnC 0))) : aCut (f + 2) (vs.flatMap (tnO t) ++ B) 0 (vs.length * 2) K := by
  have e : (vs.flatMap (tnO t)).length = vs.length * 2 := flat_len (tnO_length t) vs
  refine ⟨by rw [List.length_append, e]; omega, vs.flatMap (tnC 0), ?_, hK⟩
  rw [List.drop_zero, List.take_left' (by rw [e])]
  exact trL_flat (trL_tnO f t) vs
theorem get_a0 {A B : List AV} {n : Nat} {u v : AV} (h : A.length = n * 2) : (A ++ ([u, v] ++ B))[n * 2 + 0]? = some u := get_mid (i := 0) (by rw [h]) rfl
theorem get_a1 {A B : List AV} {n : Nat} {u v x : AV} (h : A.length = n * 2) : ((A ++ ([u, v] ++ B)).set (n * 2 + 0) x)[n * 2 + 1]? = some v := by
  rw [set_mid (i := 0) (by rw [h]) (by simp)]; exact get_mid (i := 1) (by rw [h]) rfl
theorem le_snocT {t : TypeId} {vs : List T2} {n r r' : Nat} {xs ys : List Int} {u v : AV} {p : Prop} (hn : n = vs.length) (he : r' = r) : (pureL (((vs.flatMap (tnO t) ++ ([u, v] ++ (List.replicate r [AV.nil, AV.nil]).flatten)).set (n * 2 + 0) (ownI t xs)).set (n * 2 + 1) (ownI t ys)) = true ∧ (vs ++ [(xs, ys)]).flatMap (tnO t) ++ (List.replicate r' [AV.nil, AV.nil]).flatten = ((vs.flatMap (tnO t) ++ ([u, v] ++ (List.replicate r [AV.nil, AV.nil]).flatten)).set (n * 2 + 0) (ownI t xs)).set (n * 2 + 1) (ownI t ys)) ∨ p := by
  subst he; subst hn
  have e : (vs.flatMap (tnO t)).length = vs.length * 2 := flat_len (tnO_length t) vs
  refine le_cells ?_ (pureL_app (pureL_otn _ _) (pureL_repF _ rfl _))
  rw [set_mid (i := 0) (by rw [e]) (by simp), set_mid (i := 1) (by rw [e]) (by simp)]
  simp [tnO]
theorem tree_ts {env : List AV} {rows : List Row} {ctr low R vR : Nat} {T : List Nat} {vs : List T2} (hR : rows[R]? = some ⟨vR, 40, 2, vs.flatMap (tnO 3)⟩) (hne : R ∉ T) : (⟨env, rows, ctr, low⟩ : St).tree T 4 (.ref R vR 0 vs.length) = some (.sl 0 vs.length (vs.flatMap (tnC 0))) := by
  have e : (vs.flatMap (tnO 3)).length = vs.length * 2 := flat_len (tnO_length _) vs
  refine tree_ref hR ⟨rfl, by show 0 + vs.length * 2 ≤ (vs.flatMap (tnO 3)).length; rw [e]; omega, hne⟩ ?_
  show (((vs.flatMap (tnO 3)).drop 0).take (vs.length * 2)).mapM _ = _
  rw [List.drop_zero, List.take_of_length_le (by rw [e]; exact Nat.le_refl _)]
  exact mapM_imp (fun a b e => tr_tree 3 a b e) (trL_flat (trL_tnO 1 _) vs)
theorem append_tl {env : List AV} {rows : List Row} {ctr low τ ver n τ' ver' : Nat} {A : List AV} {u v : AV} {k : AV → St → Prop} (hr : rows[τ]? = some ⟨ver, 40, 2, A⟩) (hn : A.length = n * 2) (hr' : rows[τ']? = some ⟨ver', 40, 2, [u, v]⟩) (hu : u.isOwn = false) (hv : v.isOwn = false) (hle : n ≤ 1000) (hlow : low ≤ τ)
    (hk : k (.ref τ ctr 0 (n + 1)) ⟨env, rows.set τ ⟨ctr, 40, 2, A ++ [u, v]⟩, ctr + 1, low⟩) : aAppend Tryz.prog ⟨env, rows, ctr, low⟩ 43 (.ref τ ver 0 n) (.ref τ' ver' 0 1) k := by
  have hb : (bsz Tryz.prog 40) = some 48 := by kernel_rfl
  have hz : zeroCellsA Tryz.prog 40 = some [.nil, .nil] := by kernel_rfl
  have hty : Tryz.prog.underlying 43 = some (.slice 40) := by kernel_rfl
  have hs : ∀ K : Nat → Prop, K 2 → aSz Tryz.prog 40 K := fun K h => by
    have : tsz Tryz.prog 40 = some 2 := by kernel_rfl
    unfold aSz; rw [this]; exact h
  unfold aAppend
  rw [hty]
  simp only
  rw [hz]
  simp only
  refine hs _ ?_
  unfold aElems aRow
  simp only [hr']
  rw [if_pos trivial, if_pos (.inr trivial)]
  refine ⟨⟨by simp, by simp [hu, hv]⟩, ⟨rfl, by rw [hb]; rfl, by rw [hb]; decide⟩, ?_⟩
  simp only [hr]
  rw [if_pos trivial, if_pos (by simp)]
  refine ⟨by rw [hn]; exact Nat.le_refl _, fun h => by omega, fun _ h => by exfalso; rw [hn] at h; omega, fun _ _ => ⟨hlow, by rw [hb]; simp only [Option.getD_some]; omega, ?_⟩⟩
  have e : A.take (n * 2) = A := List.take_of_length_le (by omega)
  rw [e]
  simpa using hk
theorem get_b0 {A : List AV} {n : Nat} {u v : AV} (h : A.length = n * 2) : (A ++ [u, v])[n * 2 + 0]? = some u := by
  have := get_a0 (B := []) (u := u) (v := v) h; simpa using this
theorem get_b1 {A : List AV} {n : Nat} {u v x : AV} (h : A.length = n * 2) : ((A ++ [u, v]).set (n * 2 + 0) x)[n * 2 + 1]? = some v := by
  have := get_a1 (B := []) (u := u) (v := v) (x := x) h; simpa using this
theorem le_snocU {t : TypeId} {vs : List T2} {n : Nat} {xs ys : List Int} {u v : AV} {p : Prop} (hn : n = vs.length) : (pureL (((vs.flatMap (tnO t) ++ [u, v]).set (n * 2 + 0) (ownI t xs)).set (n * 2 + 1) (ownI t ys)) = true ∧ (vs ++ [(xs, ys)]).flatMap (tnO t) = ((vs.flatMap (tnO t) ++ [u, v]).set (n * 2 + 0) (ownI t xs)).set (n * 2 + 1) (ownI t ys)) ∨ p := by
  have := le_snocT (t := t) (vs := vs) (n := n) (r := 0) (r' := 0) (xs := xs) (ys := ys) (u := u) (v := v) (p := p) hn rfl
  simpa using this
theorem retVs {env : List AV} {rows : List Row} {ctr τ ver m : Nat} {t e : TypeId} {vs : List T2} {b : Bool} {M : List T2 × Bool} {cells : List AV} (hM : M = (vs, b)) (hr : rows[τ]? = some ⟨ver, t, 2, cells⟩) (hc : cells = vs.flatMap (tnO e)) (hm : m = vs.length) :
    RetB ⟨env, rows, ctr, 0⟩ [] (fun r ic news => ic = [] ∧ r = .tup [.ref 0 0 0 M.1.length, .bool M.2] ∧ news = [⟨0, t, 2, M.1.flatMap (tnO e)⟩]) (.tup [.ref τ ver 0 m, .bool b]) := by
  subst hM; subst hc
  exact retRB hr (protL_otn _ _) hm rfl rfl
end Go.Proofs.YtjmdhfjemaoebaaGreat
namespace Go.Proofs.YtjmdhfjemaoebaaGreat
set_option maxRecDepth 20000
open Go.RowKit Go.Am
set_option linter.unusedSimpArgs false
attribute [local irreducible] aPlan aGet aIf aLoop aCall RetB NextB CallB CallG aCut aSet aAppend
set_option maxHeartbeats 8000000 in
theorem iValuesOf_sound : Sound Tryz.prog 30 sValuesOf := by
  refine sound_of Tryz.func30 rfl (enters_of Tryz.func30 (by kernel_rfl) (by kernel_rfl)) ?_
  rintro ⟨c, xss, ns, d, ts⟩ hpre
  have hE : eP ns := hpre
  have hmax : maxLen = 9223372036854775807 := rfl
  by_cases hP : inP xss ns ts
  · obtain ⟨⟨h1, h12⟩, -⟩ := shM_form hP.1
    conv => whnf
    repeat' (first
      | ((first | refine And.intro (And.intro (show (0 : Int) ≤ _ by omega) (And.intro (by kernel_rfl) (And.intro rfl (by kernel_rfl)))) (And.intro (And.intro (by omega) (And.intro (bytes_le (b := 48) rfl (by omega)) (by omega))) ?_) | refine fun (_ : _ ≤ maxLen) => ?_ | refine aGet_in rfl ?_ | refine load_same ?_ | refine And.intro rfl (And.intro (List.cons_ne_nil _ _) ?_) | refine And.intro (Nat.le_of_ble_eq_true rfl) ?_ | refine callG_t ?_ | refine append_same ?_ | refine And.intro (pureL_ii _ _) ?_ | refine And.intro (pureL_nd _ _) ?_ | refine And.intro (pureL_tn _ _) ?_); conv => whnf) | (refine iInputsOk_call (by first | omega | assumption | (refine ⟨?_, ?_⟩ <;> first | assumption | omega) | (refine ⟨?_, ?_, ?_⟩ <;> first | assumption | omega)) ?_; conv => whnf) | ((first | refine takeN_in ?_ | refine And.intro (by kernel_rfl) ?_); conv => whnf) | refine aIf_not ?_
      | (refine aIf_dec (fun _ => ?_) (fun _ => ?_) <;> conv => whnf))
    all_goals (first | (exfalso; omega) | contradiction | skip)
    refine loop_ut (ι := List T2) [false, true, false, false, false, false, true, false, false, false, false, false, false, false, false, false, false, false, false, false, true, true, true, false, false, false, false, false, false, false, false, false, false, false, false, false, false, false, false, false, false] (fun vs => [(6, .ref 2 4 0 vs.length), (22, .int .i64 vs.length)]) (fun vs => [(2, vs.flatMap (tnO 3) ++ (List.replicate (ns.length - vs.length) [AV.nil, AV.nil]).flatten)]) (fun vs => vs.length ≤ ns.length ∧ vaTo ns ts vs.length = some vs) (fun vs => ns.length - vs.length) ([]) ⟨Nat.zero_le _, rfl⟩ ?_ ?_
    · conv => whnf
      refine St.le.to ?_
      conv => whnf
      repeat' (first | exact le_cells (show rep (ns.length : Int).toNat [AV.nil, AV.nil] = ([] : List T2).flatMap (tnO 3) ++ (List.replicate (ns.length - 0) [AV.nil, AV.nil]).flatten by simp [rep]) (pureL_app (pureL_otn _ _) (pureL_repF _ rfl _)) | refine And.intro ?_ ?_)
      repeat' (first
        | exact trivial | exact rfl
        | exact Or.inl (And.intro rfl rfl) | exact pureL_ii _ _
        | exact pureL_nd _ _ | exact pureL_tn _ _
        | refine Or.inr ?_ | refine And.intro ?_ ?_
        | exact Nat.le_of_ble_eq_true rfl)
    · rintro vs ⟨hsl, hss⟩
      have hsl : vs.length ≤ ns.length := hsl
      have hok := vaTo_ok hP hE hsl hss
      have hfl : (vs.flatMap (tnO 3)).length = vs.length * 2 := flat_len (tnO_length _) vs
      by_cases hlt : vs.length < ns.length
      · have hv := vPre_of hP hE hlt rfl hok
        cases hb : (vlM (ns.getD vs.length default) ts vs).2.2 with
        | true =>
          have hn' := vaTo_t hss hb
          conv => whnf
          repeat' (first
            | ((first | refine aGet_in rfl ?_ | refine And.intro (by omega) ?_ | refine load_same ?_ | refine And.intro (Nat.le_of_ble_eq_true rfl) ?_ | refine callG_t ?_ | refine append_same ?_ | refine part_nd_n (by omega) ?_ | refine And.intro (pureL_tn _ _) ?_ | refine nodeValue_call (by assumption) ?_ | refine cut_room ?_ | refine takeN_in ?_ | refine And.intro (pureL_ints _ _) ?_ | refine set_force ?_ | refine And.intro (And.intro (by kernel_rfl) (And.intro rfl (Nat.le_of_ble_eq_true rfl))) ?_ | refine And.intro (by kernel_rfl) ?_ | refine aIf_tt (by assumption) ?_); conv => whnf) | refine aIf_not ?_
            | (refine aIf_dec (fun _ => ?_) (fun _ => ?_) <;> conv => whnf))
          all_goals (first | (exfalso; omega) | contradiction | skip)
          refine append_tr rfl hfl rfl rfl rfl (by omega) ?_
          conv => whnf
          repeat' (first
            | (refine append_same ?_; conv => whnf))
          have hlen : (vs ++ [((vlM (ns.getD vs.length default) ts vs).1, (vlM (ns.getD vs.length default) ts vs).2.1)]).length = vs.length + 1 := by simp
          refine next_ut (vs ++ [((vlM (ns.getD vs.length default) ts vs).1, (vlM (ns.getD vs.length default) ts vs).2.1)]) (show ns.length - (vs ++ [((vlM (ns.getD vs.length default) ts vs).1, (vlM (ns.getD vs.length default) ts vs).2.1)]).length < ns.length - vs.length by omega) ⟨(by omega : (vs ++ [((vlM (ns.getD vs.length default) ts vs).1, (vlM (ns.getD vs.length default) ts vs).2.1)]).length ≤ ns.length), by rw [hlen]; exact hn'⟩ ?_
          conv => whnf
          refine to_close 2 (vs.length * 2 + 0) 5 _ _ 1 3 _ _ rfl (get_a0 hfl) rfl (by decide) (Nat.zero_le _) (by decide) (by simp) ?_
          refine to_close 2 (vs.length * 2 + 1) 6 _ _ 1 3 _ _ rfl (get_a1 hfl) rfl (by decide) (Nat.zero_le _) (by decide) (by simp) ?_
          refine St.le.to ?_
          conv => whnf
          repeat' (first | exact le_snocT rfl (by rw [hlen]; omega) | refine And.intro ?_ ?_)
          repeat' (first
            | exact trivial | exact rfl
            | exact Or.inl (And.intro rfl rfl) | exact pureL_ii _ _
            | exact pureL_nd _ _ | exact pureL_tn _ _
            | refine Or.inr ?_ | refine And.intro ?_ ?_
            | exact Nat.le_of_ble_eq_true rfl | exact List.length_append
            | exact int_eq (by rw [IntWalk.i64_in _ (by omega)] <;> omega))
        | false =>
          conv => whnf
          repeat' (first
            | ((first | refine aGet_in rfl ?_ | refine And.intro (by omega) ?_ | refine load_same ?_ | refine And.intro (Nat.le_of_ble_eq_true rfl) ?_ | refine callG_t ?_ | refine append_same ?_ | refine part_nd_n (by omega) ?_ | refine And.intro (pureL_tn _ _) ?_ | refine nodeValue_call (by assumption) ?_ | refine cut_room ?_ | refine takeN_in ?_ | refine And.intro (pureL_ints _ _) ?_ | refine set_force ?_ | refine And.intro (by kernel_rfl) ?_ | refine aIf_ff (by assumption) ?_); conv => whnf) | refine aIf_not ?_
            | (refine aIf_dec (fun _ => ?_) (fun _ => ?_) <;> conv => whnf))
          all_goals (first | (exfalso; omega) | contradiction | skip)
          exact retVs (vaM_n (vaTo_none (vaTo_f hss hb) _ (by omega))) rfl rfl rfl
      · have he : vs.length = ns.length := by omega
        have e0 : ns.length - vs.length = 0 := by omega
        conv => whnf
        repeat' (first
          | ((first | refine And.intro (by omega) ?_ | refine load_same ?_ | refine callG_t ?_ | refine append_same ?_ | refine part_nd_n (by omega) ?_ | refine cut_room ?_ | refine takeN_in ?_ | refine set_force ?_); conv => whnf) | (refine aIf_dec (fun _ => ?_) (fun _ => ?_) <;> conv => whnf))
        all_goals (first | (exfalso; omega) | skip)
        exact retVs (vaM_t hP (by rw [← he]; exact hss)) rfl (by rw [e0]; simp) rfl
  · have hM := vaM_f hP
    conv => whnf
    repeat' (first
      | ((first | refine fun (_ : _ ≤ maxLen) => ?_ | refine aGet_in rfl ?_ | refine load_same ?_ | refine And.intro rfl (And.intro (List.cons_ne_nil _ _) ?_) | refine And.intro (Nat.le_of_ble_eq_true rfl) ?_ | refine callG_t ?_ | refine append_same ?_ | refine And.intro (pureL_ii _ _) ?_ | refine And.intro (pureL_nd _ _) ?_ | refine And.intro (pureL_tn _ _) ?_); conv => whnf) | (refine iInputsOk_call (by first | omega | assumption | (refine ⟨?_, ?_⟩ <;> first | assumption | omega) | (refine ⟨?_, ?_, ?_⟩ <;> first | assumption | omega)) ?_; conv => whnf) | ((first | refine takeN_in ?_ | refine And.intro (by kernel_rfl) ?_); conv => whnf) | refine aIf_not ?_
      | (refine aIf_dec (fun _ => ?_) (fun _ => ?_) <;> conv => whnf))
    all_goals (first | contradiction | exact retVs hM rfl rfl rfl)
theorem iValuesOf_call {c d : Nat} {xss : List (List Int)} {ns : List Nd} {ts : List T2} {env : List AV} {rows : List Row} {ctr low : Nat} {k : AV → St → Prop} (hpre : eP ns)
    (h : k (.tup [.ref rows.length ctr 0 (vaM xss ns ts).1.length, .bool (vaM xss ns ts).2]) ⟨env, rows ++ [⟨ctr, 40, 2, (vaM xss ns ts).1.flatMap (tnO 3)⟩], ctr + 1, low⟩) :
    CallB Tryz.prog 30 ⟨env, rows, ctr, low⟩ [.agg [.sl c xss.length (xss.map (slI c)), .sl c ns.length (ns.flatMap (ndC c))], .sl d ts.length (ts.flatMap (tnC d))] k := callRB_in iValuesOf_sound (c, xss, ns, d, ts) hpre (protL_otn _ _) h
end Go.Proofs.YtjmdhfjemaoebaaGreat
namespace Go.Proofs.YtjmdhfjemaoebaaGreat
set_option maxRecDepth 20000
open Go.RowKit Go.Am
set_option linter.unusedSimpArgs false
theorem vS_fst {x : Nd} {sh : List Int} {ts vs : List T2} (hp : lPre x sh ts vs) : (vS x sh ts vs).1 = sh := by
  have F := l_facts hp
  have hs := hp.2.2
  have eA : shA x (vs.map Prod.fst) = (vs.getD x.a.toNat ([], [])).1 := getD_fst _ _
  have eB : shB x (vs.map Prod.fst) = (vs.getD x.b.toNat ([], [])).1 := getD_fst _ _
  have hop := F.op
  by_cases o0 : x.op = 0
  · unfold vS; rw [if_pos o0]
  · by_cases o1 : x.op = 1
    · unfold vS; rw [if_neg o0, if_pos o1]
    · have ha := F.ia (by omega)
      have hsA := ((tensorOk_iff _ _).1 ha.2).1
      by_cases o6 : x.op = 6
      · have : kL x (vs.map Prod.fst) (ts.map Prod.fst) = shA x (vs.map Prod.fst) := by simp [kL, o6]
        rw [hs, this, eA]; unfold vS; rw [if_neg o0, if_neg o1, if_pos o6, neg_t ha.2]
      · by_cases o7 : x.op = 7
        · have : kL x (vs.map Prod.fst) (ts.map Prod.fst) = wo (shA x (vs.map Prod.fst)) (x.l.getD (Int.toNat 0) 0).toNat := by simp [kL, o7]
          rw [hs, this, eA]; unfold vS; rw [if_neg o0, if_neg o1, if_neg o6, if_pos o7]
        · by_cases o8 : x.op = 8
          · have : kL x (vs.map Prod.fst) (ts.map Prod.fst) = tsL (shA x (vs.map Prod.fst)) x.l := by simp [kL, o8]
            rw [hs, this, eA, (tsL_t hsA (F.turn o8)).1]; unfold vS; rw [if_neg o0, if_neg o1, if_neg o6, if_neg o7, if_pos o8]
          · by_cases o9 : x.op = 9
            · unfold vS; rw [if_neg o0, if_neg o1, if_neg o6, if_neg o7, if_neg o8, if_pos o9]
            · by_cases o10 : x.op = 10
              · have : kL x (vs.map Prod.fst) (ts.map Prod.fst) = cshL (shA x (vs.map Prod.fst)) x.l := by simp [kL, o10]
                obtain ⟨-, c0, c1, c2, c3, c4⟩ := F.cut o10
                have hz := size_in hsA (j := (x.l.getD (Int.toNat 0) 0).toNat) (by omega)
                have hc : cshP (vs.getD x.a.toNat ([], [])).1 x.l := ⟨c1, ⟨c3, by omega⟩, c2, by omega⟩
                rw [hs, this, eA]; unfold vS; rw [if_neg o0, if_neg o1, if_neg o6, if_neg o7, if_neg o8, if_neg o9, if_pos o10]
                exact (if_pos hc).symm
              · by_cases o11 : x.op = 11
                · unfold vS; rw [if_neg o0, if_neg o1, if_neg o6, if_neg o7, if_neg o8, if_neg o9, if_neg o10, if_pos o11]
                · by_cases o12 : x.op = 12
                  · have : kL x (vs.map Prod.fst) (ts.map Prod.fst) = [(shA x (vs.map Prod.fst)).getD (Int.toNat 0) 0, (shB x (vs.map Prod.fst)).getD (Int.toNat 1) 0] := by simp [kL, o12]
                    rw [hs, this, eA, eB]; unfold vS; rw [if_neg o0, if_neg o1, if_neg o6, if_neg o7, if_neg o8, if_neg o9, if_neg o10, if_neg o11, if_pos o12]; rfl
                  · have : kL x (vs.map Prod.fst) (ts.map Prod.fst) = jL (shA x (vs.map Prod.fst)) (shB x (vs.map Prod.fst)) := by unfold kL; rw [if_neg o0, if_neg o1, if_neg o6, if_neg o7, if_neg o8, if_neg o9, if_neg o10, if_neg o11, if_neg o12]
                    rw [hs, this, eA, eB]; unfold vS; rw [if_neg o0, if_neg o1, if_neg o6, if_neg o7, if_neg o8, if_neg o9, if_neg o10, if_neg o11, if_neg o12]
theorem shTo_take {ins : List (List Int)} {ns : List Nd} : ∀ {n : Nat} {ss : List (List Int)}, shTo ins ns n = some ss → ∀ k, k ≤ n → shTo ins ns k = some (ss.take k)
  | 0, ss, h, k, hk => by
    have : k = 0 := by omega
    subst this
    cases h; rfl
  | n + 1, ss, h, k, hk => by
    by_cases e : k = n + 1
    · subst e
      have := shTo_len h
      rw [List.take_of_length_le (by omega)]; exact h
    · cases e0 : shTo ins ns n with
      | none => rw [shTo, e0] at h; cases h
      | some s =>
        have ih := shTo_take e0 k (by omega)
        have hl := shTo_len e0
        by_cases hp : nodeP ins ns s n
        · rw [shTo_t e0 hp] at h; cases h
          rw [List.take_append_of_le_length (by omega)]; exact ih
        · rw [shTo_f e0 hp] at h; cases h
theorem shTo_node {ins : List (List Int)} {ns : List Nd} {n k : Nat} {ss : List (List Int)} (h : shTo ins ns n = some ss) (hk : k < n) : nodeP ins ns (ss.take k) k ∧ ss.getD k [] = kL (ns.getD k default) (ss.take k) ins := by
  have h1 := shTo_take h k (by omega)
  have h2 := shTo_take h (k + 1) (by omega)
  have hl := shTo_len h
  by_cases hp : nodeP ins ns (ss.take k) k
  · rw [shTo_t h1 hp] at h2
    have h2 : ss.take k ++ [kL (ns.getD k default) (ss.take k) ins] = ss.take (k + 1) := by simpa using h2
    refine ⟨hp, ?_⟩
    have e : ss.take (k + 1) = ss.take k ++ [ss.getD k []] := by rw [List.take_add_one, getD_eq (d := []) (by omega)]; rfl
    rw [e] at h2
    simpa using (List.append_cancel_left h2).symm
  · rw [shTo_f h1 hp] at h2; cases h2
theorem inP_fst {xss : List (List Int)} {ns : List Nd} {ts : List T2} (h : inP xss ns ts) : ts.map Prod.fst = xss := by
  refine getD_extG (d := []) (by rw [List.length_map]; exact h.2.1) fun j hj => ?_
  rw [getD_fst]; exact (h.2.2 j (by rw [h.2.1]; exact hj)).2
theorem lPre_of {xss : List (List Int)} {ns : List Nd} {ts vs : List T2} {ss : List (List Int)} {k : Nat} (h : inP xss ns ts) (hE : eP ns) (hs : shTo xss ns ns.length = some ss) (hk : k < ns.length) (hl : vs.length = k) (hv : allT vs) (hm : vs.map Prod.fst = ss.take k) : lPre (ns.getD k default) (ss.getD k []) ts vs := by
  obtain ⟨h1, h2⟩ := shTo_node hs hk
  exact ⟨vPre_of h hE hk hl hv, by rw [hm]; exact h1.2, by rw [hm, inP_fst h]; exact h2⟩
theorem told_true {x : Nd} {sh : List Int} {ts vs : List T2} (hp : lPre x sh ts vs) (hb : (vlM x ts vs).2.2 = true) : tensorOk sh (vS x sh ts vs).2 = true ∧ vlM x ts vs = (sh, (vS x sh ts vs).2, true) := by
  have e := vS_told hp
  have ef := vS_fst hp
  rw [ef] at e
  by_cases ht : tensorOk sh (vS x sh ts vs).2 = true
  · exact ⟨ht, by rw [← e]; exact told_t ht⟩
  · rw [← e, told_f (by simpa using ht)] at hb; cases hb
theorem told_false {x : Nd} {sh : List Int} {ts vs : List T2} (hp : lPre x sh ts vs) (hb : (vlM x ts vs).2.2 = false) : tensorOk sh (vS x sh ts vs).2 = false := by
  have e := vS_told hp
  have ef := vS_fst hp
  rw [ef] at e
  by_cases ht : tensorOk sh (vS x sh ts vs).2 = true
  · rw [← e, told_t ht] at hb; cases hb
  · simpa using ht
theorem va_shapes {xss : List (List Int)} {ns : List Nd} {ts : List T2} {ss : List (List Int)} (h : inP xss ns ts) (hE : eP ns) (hs : shTo xss ns ns.length = some ss) : ∀ {k : Nat} {vs : List T2}, k ≤ ns.length → vaTo ns ts k = some vs → vs.map Prod.fst = ss.take k
  | 0, vs, _, e => by cases e; simp
  | k + 1, vs, hk, e => by
    cases e0 : vaTo ns ts k with
    | none => rw [vaTo, e0] at e; cases e
    | some s =>
      have ih := va_shapes h hE hs (by omega) e0
      have hl := vaTo_len e0
      have hok := vaTo_ok h hE (by omega) e0
      have hp := lPre_of h hE hs (show k < ns.length by omega) hl hok ih
      cases hb : (vlM (ns.getD k default) ts s).2.2 with
      | false => rw [vaTo_f e0 hb] at e; cases e
      | true =>
        rw [vaTo_t e0 hb] at e; cases e
        rw [(told_true hp hb).2]
        have hsl := shTo_len hs
        have e2 : ss.take (k + 1) = ss.take k ++ [ss.getD k []] := by rw [List.take_add_one, getD_eq (d := []) (by omega)]; rfl
        rw [List.map_append, ih, e2]; rfl
end Go.Proofs.YtjmdhfjemaoebaaGreat
namespace Go.Proofs.YtjmdhfjemaoebaaGreat
set_option maxRecDepth 20000
open Go.RowKit Go.Am
set_option linter.unusedSimpArgs false
theorem l3Value_call {b e : Nat} {x : Nd} {sh : List Int} {ts vs : List T2} {env : List AV} {rows : List Row} {ctr low τ ver n R vR nR : Nat} {k : AV → St → Prop} (hp : lPre x sh ts vs) (hr : rows[τ]? = some ⟨ver, 3, 1, sh.map (.int .i64)⟩) (hn : n = sh.length) (hR : rows[R]? = some ⟨vR, 40, 2, vs.flatMap (tnO 3)⟩) (hnR : nR = vs.length) (hne : R ≠ τ)
    (hk1 : hbK x → k (.agg [.ref τ ver 0 n, .ref rows.length ctr 0 (vS x sh ts vs).2.length]) ⟨env, setRows rows [τ] [sh.map (.int .i64)] ++ [⟨ctr, 3, 1, (vS x sh ts vs).2.map (.int .i64)⟩], ctr + 1, low⟩)
    (hk2 : ¬ hbK x → k (.agg [.ref rows.length ctr 0 (vS x sh ts vs).1.length, .ref (rows.length + 1) ctr 0 (vS x sh ts vs).2.length]) ⟨env, setRows rows [τ] [sh.map (.int .i64)] ++ [⟨ctr, 3, 1, (vS x sh ts vs).1.map (.int .i64)⟩, ⟨ctr, 3, 1, (vS x sh ts vs).2.map (.int .i64)⟩], ctr + 1, low⟩) :
    CallG Tryz.prog 75 ⟨env, rows, ctr, low⟩ [.agg [.int .i64 x.op, .int .i64 x.a, .int .i64 x.b, .sl b x.l.length (x.l.map (.int .i64))], .ref τ ver 0 n, .ref R vR 0 nR, .sl e ts.length (ts.flatMap (tnC e))] k := by
  subst hn; subst hnR
  refine .inr ⟨[τ], _, l3Value_sound, [.agg [.int .i64 x.op, .int .i64 x.a, .int .i64 x.b, .sl b x.l.length (x.l.map (.int .i64))], .ref 0 0 0 sh.length, .sl 0 vs.length (vs.flatMap (tnC 0)), .sl e ts.length (ts.flatMap (tnC e))], [⟨0, 3, 1, sh.map (.int .i64)⟩], by simp, ?_, ?_, (b, x, sh, 0, vs, e, ts), rfl, rfl, ⟨hp, (l_facts hp).op⟩, ?_⟩
  · have e1 : callArg ⟨env, rows, ctr, low⟩ [τ] false (.agg [.int .i64 x.op, .int .i64 x.a, .int .i64 x.b, .sl b x.l.length (x.l.map (.int .i64))]) = some (.agg [.int .i64 x.op, .int .i64 x.a, .int .i64 x.b, .sl b x.l.length (x.l.map (.int .i64))]) := tree_agg (mapM_next rfl (mapM_next rfl (mapM_next rfl (mapM_next (tree_sl (pureL_ints _ _)) rfl))))
    have e2 : callArg ⟨env, rows, ctr, low⟩ [τ] true (.ref τ ver 0 sh.length) = some (.ref 0 0 0 sh.length) := by
      simp [callArg, AV.ren, hr]
    have e3 : callArg ⟨env, rows, ctr, low⟩ [τ] false (.ref R vR 0 vs.length) = some (.sl 0 vs.length (vs.flatMap (tnC 0))) := tree_ts hR (by simpa using hne)
    have e4 : callArg ⟨env, rows, ctr, low⟩ [τ] false (.sl e ts.length (ts.flatMap (tnC e))) = some (.sl e ts.length (ts.flatMap (tnC e))) := tree_sl (s := ⟨env, rows, ctr, low⟩) (T := [τ]) (f := 3) (pureL_tn _ _)
    show (callArg _ [τ] false _).bind _ = _
    rw [e1]
    show ((callArg _ [τ] true _).bind _).map _ = _
    rw [e2]
    show (((callArg _ [τ] false _).bind _).map _).map _ = _
    rw [e3]
    show ((((callArg _ [τ] false _).bind _).map _).map _).map _ = _
    rw [e4]
    rfl
  · simp [insOf, hr, protL_ren (protL_ints .i64 sh), -List.getD_eq_getElem?_getD]
  · rintro r ic news ⟨rfl, hpost⟩ _
    have ev : verOf ⟨env, rows, ctr, low⟩ τ = ver := by simp [verOf, hr]
    rcases hpost with ⟨hh, rfl, rfl⟩ | ⟨hh, rfl, rfl⟩
    · have eb : (AV.agg [.ref 0 0 0 sh.length, .ref 1 0 0 (vS x sh ts vs).2.length]).back ⟨env, rows, ctr, low⟩ [τ] = .agg [.ref τ ver 0 sh.length, .ref rows.length ctr 0 (vS x sh ts vs).2.length] := by
        simp [AV.back, Go.Am.backL, backT, backV, -List.getD_eq_getElem?_getD]
        exact ⟨rfl, ev⟩
      rw [eb]
      show k _ ⟨env, setRows rows [τ] [Go.Am.backL _ [τ] (sh.map (.int .i64))] ++ (St.news _ [τ] [⟨0, 3, 1, (vS x sh ts vs).2.map (.int .i64)⟩]), ctr + 1, low⟩
      rw [protL_back (protL_ints _ _), news_prot (protL_ints _ _)]
      exact hk1 hh
    · have eb : (AV.agg [.ref 1 0 0 (vS x sh ts vs).1.length, .ref 2 0 0 (vS x sh ts vs).2.length]).back ⟨env, rows, ctr, low⟩ [τ] = .agg [.ref rows.length ctr 0 (vS x sh ts vs).1.length, .ref (rows.length + 1) ctr 0 (vS x sh ts vs).2.length] := by
        simp [AV.back, Go.Am.backL, backT, backV, Nat.add_comm, -List.getD_eq_getElem?_getD]
      rw [eb]
      show k _ ⟨env, setRows rows [τ] [Go.Am.backL _ [τ] (sh.map (.int .i64))] ++ (St.news _ [τ] [⟨0, 3, 1, (vS x sh ts vs).1.map (.int .i64)⟩, ⟨0, 3, 1, (vS x sh ts vs).2.map (.int .i64)⟩]), ctr + 1, low⟩
      rw [protL_back (protL_ints _ _), news_prot2 (protL_ints _ _) (protL_ints _ _)]
      exact hk2 hh
def shF (t : TypeId) (ss : List (List Int)) (k : Nat) : List AV := List.replicate k .un ++ (ss.drop k).map (ownI t)
theorem drop_cons {α : Type} (d : α) {l : List α} {k : Nat} (h : k < l.length) : l.drop k = l.getD k d :: l.drop (k + 1) := by
  rw [List.drop_eq_getElem_cons h]; simp [List.getD, List.getElem?_eq_getElem h]
theorem shF_cons (t : TypeId) {ss : List (List Int)} {k : Nat} (h : k < ss.length) : shF t ss k = List.replicate k .un ++ ([ownI t (ss.getD k [])] ++ (ss.drop (k + 1)).map (ownI t)) := by
  unfold shF; rw [drop_cons [] h]; rfl
theorem get_shF {t : TypeId} {ss : List (List Int)} {k : Nat} {K : AV → Prop} (h : k < ss.length) (hK : K (ownI t (ss.getD k []))) : aGet ((shF t ss k).drop (0 + (k : Int).toNat * 1)) 0 K := by
  refine ⟨_, ?_, hK⟩
  rw [shF_cons t h, List.getElem?_drop, Nat.add_zero]
  exact get_mid (i := 0) (by simp) rfl
theorem subL_app {s s' : St} : ∀ {us vs cs ds : List AV}, subL s s' us vs → subL s s' cs ds → subL s s' (us ++ cs) (vs ++ ds)
  | [], [], _, _, _, h => h
  | _ :: _, _ :: _, _, _, h, h' => ⟨h.1, subL_app h.2 h'⟩
  | [], _ :: _, _, _, h, _ => h.elim
  | _ :: _, [], _, _, h, _ => h.elim
theorem shF_0 (t : TypeId) (ss : List (List Int)) : ss.map (ownI t) = shF t ss 0 := by unfold shF; simp
theorem un_sub {s s' : St} (u : AV) : AV.sub s s' u .un := by cases u <;> exact rfl
theorem subL_un {s s' : St} : ∀ (n : Nat), subL s s' (List.replicate n .un) (List.replicate n .un)
  | 0 => trivial
  | n + 1 => ⟨rfl, subL_un n⟩
theorem subL_own {s s' : St} {t : TypeId} : ∀ (l : List (List Int)), subL s s' (l.map (ownI t)) (l.map (ownI t))
  | [] => trivial
  | x :: l => ⟨⟨rfl, ownI_pure t x⟩, subL_own l⟩
theorem le_shF {s s' : St} {t : TypeId} {ss : List (List Int)} {k : Nat} {u : AV} {p : Prop} (h : k < ss.length) : p ∨ subL s s' ((shF t ss k).set (0 + (k : Int).toNat * 1) u) (shF t ss (k + 1)) := by
  refine .inr ?_
  rw [shF_cons t h, set_mid (i := 0) (by simp) (by simp)]
  have e : shF t ss (k + 1) = List.replicate k .un ++ ([.un] ++ (ss.drop (k + 1)).map (ownI t)) := by
    unfold shF; rw [List.replicate_succ', List.append_assoc]
  rw [e]
  exact subL_app (subL_un k) (subL_app (us := [u]) (vs := [.un]) ⟨un_sub u, trivial⟩ (subL_own _))
attribute [local irreducible] aPlan aGet aIf aLoop aCall RetB NextB CallB CallG aCut aSet aAppend shF Held
set_option maxHeartbeats 16000000 in
theorem sValuesOf_sound : Sound Tryz.prog 29 sValuesOf := by
  refine sound_of Tryz.func29 rfl (enters_of Tryz.func29 (by kernel_rfl) (by kernel_rfl)) ?_
  rintro ⟨c, xss, ns, d, ts⟩ hpre
  have hE : eP ns := hpre
  have hmax : maxLen = 9223372036854775807 := rfl
  by_cases hP : inP xss ns ts
  · obtain ⟨⟨h1, h12⟩, -⟩ := shM_form hP.1
    obtain ⟨ss, hss⟩ : ∃ ss, shTo xss ns ns.length = some ss := by
      cases e : shTo xss ns ns.length with
      | some ss => exact ⟨ss, rfl⟩
      | none => have := hP.1; rw [shM_n e] at this; cases this
    have hsl := shTo_len hss
    have hsM : (shM xss ns).1 = ss := by
      by_cases hI : insOk xss ∧ 1 ≤ ns.length ∧ ns.length ≤ 12
      · rw [shM_t hI hss]
      · have := hP.1; rw [shM_f hI] at this; cases this
    conv => whnf
    repeat' (first
      | ((first | refine tree_in2 (id := 8) (.one 0 (.one 1 (.one 2 (.one 3 (.one 4 (.one 5 (.one 6 (.one 7 (.one 8 (.one 9 (.one 10 (.two 11 12 (.one 12 (.one 13 .nil)) (.one 11 (.one 13 .nil)))))))))))))) (by kernel_rfl) (by kernel_rfl) ?_ | refine aGet_in rfl ?_ | refine load_same ?_ | refine And.intro rfl (And.intro (List.cons_ne_nil _ _) ?_) | refine And.intro (Nat.le_of_ble_eq_true rfl) ?_ | refine callG_t ?_ | refine append_same ?_ | refine And.intro (pureL_ii _ _) ?_ | refine And.intro (pureL_nd _ _) ?_ | refine And.intro (pureL_tn _ _) ?_ | refine sShapesOf_call (by assumption) ?_); conv => whnf) | (refine sInputsOk_call (by first | omega | assumption | (refine ⟨?_, ?_⟩ <;> first | assumption | omega) | (refine ⟨?_, ?_, ?_⟩ <;> first | assumption | omega)) ?_; conv => whnf) | ((first | refine takeN_in ?_ | refine And.intro (And.intro (by kernel_rfl) (And.intro rfl (Nat.le_of_ble_eq_true rfl))) ?_ | refine And.intro (by kernel_rfl) ?_); conv => whnf) | refine aIf_not ?_
      | (refine aIf_dec (fun _ => ?_) (fun _ => ?_) <;> conv => whnf))
    all_goals (first | (exfalso; omega) | contradiction | skip)
    rw [hsM]
    refine loop_ut (ι := List T2) [false, true, true, false, false, false, true, false, true, true, false, false, false, false, false, false, false, false, false, false, false, false, false, false, false, false, false, false, false, false, false, false, false, false, false, false, false, false, false, false, false, false, false, false, false, false, false, false] (fun vs => [(8, .ref 3 5 0 vs.length), (9, .int .i64 vs.length)]) (fun vs => [(2, shF 3 ss vs.length), (3, vs.flatMap (tnO 3))]) (fun vs => vs.length ≤ ns.length ∧ vaTo ns ts vs.length = some vs) (fun vs => ns.length - vs.length) ([]) ⟨Nat.zero_le _, rfl⟩ ?_ ?_
    · conv => whnf
      refine St.le.to ?_
      conv => whnf
      repeat' (first | exact Or.inl (And.intro (pureL_oi _ _) (shF_0 _ _).symm) | refine And.intro ?_ ?_)
      repeat' (first
        | exact trivial | exact rfl
        | exact Or.inl (And.intro rfl rfl) | exact pureL_ii _ _
        | exact pureL_nd _ _ | exact pureL_tn _ _
        | refine Or.inr ?_ | refine And.intro ?_ ?_
        | exact Nat.le_of_ble_eq_true rfl)
    · rintro vs ⟨hvl, hva⟩
      have hvl : vs.length ≤ ns.length := hvl
      have hok := vaTo_ok hP hE hvl hva
      have hfl : (vs.flatMap (tnO 3)).length = vs.length * 2 := flat_len (tnO_length _) vs
      by_cases hlt : vs.length < ns.length
      · have hlp := lPre_of hP hE hss hlt rfl hok (va_shapes hP hE hss hvl hva)
        have hef := vS_fst hlp
        cases hb : (vlM (ns.getD vs.length default) ts vs).2.2 with
        | true =>
          obtain ⟨hT, hMv⟩ := told_true hlp hb
          have hT1 : tensorOk (vS (ns.getD vs.length default) (ss.getD vs.length []) ts vs).1 (vS (ns.getD vs.length default) (ss.getD vs.length []) ts vs).2 = true := by rw [hef]; exact hT
          have hn' := vaTo_t hva hb
          rw [hMv] at hn'
          by_cases hh : hbK (ns.getD vs.length default)
          · conv => whnf
            repeat' (first
              | (refine tree_in2 (id := 8) (.one 0 (.one 1 (.one 2 (.one 3 (.one 4 (.one 5 (.one 6 (.one 7 (.one 8 (.one 9 (.one 10 (.two 11 12 (.one 12 (.one 13 .nil)) (.one 11 (.one 13 .nil)))))))))))))) (by kernel_rfl) (by kernel_rfl) ?_; conv => whnf) | (refine fork_in ?_ ?_ <;> conv => whnf) | ((first | refine fun (_ : _ ≤ maxLen) => ?_ | refine aGet_in rfl ?_ | refine And.intro (by omega) ?_ | refine load_same ?_ | refine And.intro (Nat.le_of_ble_eq_true rfl) ?_); conv => whnf) | (refine l3Value_call (by assumption) rfl rfl rfl rfl (by decide) (fun _ => ?_) (fun _ => ?_) <;> conv => whnf) | ((first | refine callG_t ?_ | refine sTensorOk_call ?_ | refine append_same ?_ | refine part_nd_n (by omega) ?_ | refine get_shF (by omega) ?_ | refine takeN_in ?_ | refine cut_ints ?_ | refine set_force ?_ | refine And.intro (And.intro (by kernel_rfl) (And.intro rfl (Nat.le_of_ble_eq_true rfl))) ?_ | refine And.intro (by kernel_rfl) ?_ | refine aIf_tt (by assumption) ?_); conv => whnf) | refine aIf_not ?_
              | (refine aIf_dec (fun _ => ?_) (fun _ => ?_) <;> conv => whnf))
            all_goals (first | contradiction | (exfalso; omega) | skip)
            · refine append_tl rfl hfl rfl rfl rfl (by omega) (Nat.zero_le _) ?_
              conv => whnf
              repeat' (first
                | ((first | refine tree_in2 (id := 8) (.one 0 (.one 1 (.one 2 (.one 3 (.one 4 (.one 5 (.one 6 (.one 7 (.one 8 (.one 9 (.one 10 (.two 11 12 (.one 12 (.one 13 .nil)) (.one 11 (.one 13 .nil)))))))))))))) (by kernel_rfl) (by kernel_rfl) ?_ | refine append_same ?_); conv => whnf))
              have hlen : (vs ++ [(ss.getD vs.length [], (vS (ns.getD vs.length default) (ss.getD vs.length []) ts vs).2)]).length = vs.length + 1 := by simp
              refine next_ut (vs ++ [(ss.getD vs.length [], (vS (ns.getD vs.length default) (ss.getD vs.length []) ts vs).2)]) (show ns.length - (vs ++ [(ss.getD vs.length [], (vS (ns.getD vs.length default) (ss.getD vs.length []) ts vs).2)]).length < ns.length - vs.length by omega) ⟨(by omega : (vs ++ [(ss.getD vs.length [], (vS (ns.getD vs.length default) (ss.getD vs.length []) ts vs).2)]).length ≤ ns.length), by rw [hlen]; exact hn'⟩ ?_
              rw [hlen]
              conv => whnf
              refine to_close 3 (vs.length * 2 + 0) 4 _ _ 1 3 _ _ rfl (get_b0 hfl) rfl (by decide) (Nat.zero_le _) (by decide) (by simp) ?_
              refine to_close 3 (vs.length * 2 + 1) 5 _ _ 1 3 _ _ rfl (get_b1 hfl) rfl (by decide) (Nat.zero_le _) (by decide) (by simp) ?_
              refine St.le.to ?_
              conv => whnf
              repeat' (first | exact le_snocU rfl | exact le_shF (by omega) | refine And.intro ?_ ?_)
              repeat' (first
                | exact trivial | exact rfl
                | exact Or.inl (And.intro rfl rfl) | exact pureL_ii _ _
                | exact pureL_nd _ _ | exact pureL_tn _ _
                | refine Or.inr ?_ | refine And.intro ?_ ?_
                | exact Nat.le_of_ble_eq_true rfl | exact int_eq (by rw [IntWalk.i64_in _ (by omega)] <;> omega))
            · refine append_tl rfl hfl rfl rfl rfl (by omega) (Nat.zero_le _) ?_
              conv => whnf
              repeat' (first
                | ((first | refine tree_in2 (id := 8) (.one 0 (.one 1 (.one 2 (.one 3 (.one 4 (.one 5 (.one 6 (.one 7 (.one 8 (.one 9 (.one 10 (.two 11 12 (.one 12 (.one 13 .nil)) (.one 11 (.one 13 .nil)))))))))))))) (by kernel_rfl) (by kernel_rfl) ?_ | refine append_same ?_); conv => whnf))
              have hlen : (vs ++ [(ss.getD vs.length [], (vS (ns.getD vs.length default) (ss.getD vs.length []) ts vs).2)]).length = vs.length + 1 := by simp
              refine next_ut (vs ++ [(ss.getD vs.length [], (vS (ns.getD vs.length default) (ss.getD vs.length []) ts vs).2)]) (show ns.length - (vs ++ [(ss.getD vs.length [], (vS (ns.getD vs.length default) (ss.getD vs.length []) ts vs).2)]).length < ns.length - vs.length by omega) ⟨(by omega : (vs ++ [(ss.getD vs.length [], (vS (ns.getD vs.length default) (ss.getD vs.length []) ts vs).2)]).length ≤ ns.length), by rw [hlen]; exact hn'⟩ ?_
              rw [hlen]
              conv => whnf
              refine to_close 3 (vs.length * 2 + 0) 4 _ _ 1 3 _ _ rfl (get_b0 hfl) rfl (by decide) (Nat.zero_le _) (by decide) (by simp) ?_
              refine to_close 3 (vs.length * 2 + 1) 8 _ _ 1 3 _ _ rfl (get_b1 hfl) rfl (by decide) (Nat.zero_le _) (by decide) (by simp) ?_
              refine St.le.to ?_
              conv => whnf
              repeat' (first | exact le_snocU rfl | exact le_shF (by omega) | refine And.intro ?_ ?_)
              repeat' (first
                | exact trivial | exact rfl
                | exact Or.inl (And.intro rfl rfl) | exact pureL_ii _ _
                | exact pureL_nd _ _ | exact pureL_tn _ _
                | refine Or.inr ?_ | refine And.intro ?_ ?_
                | exact Nat.le_of_ble_eq_true rfl | exact int_eq (by rw [IntWalk.i64_in _ (by omega)] <;> omega))
          · conv => whnf
            repeat' (first
              | (refine tree_in2 (id := 8) (.one 0 (.one 1 (.one 2 (.one 3 (.one 4 (.one 5 (.one 6 (.one 7 (.one 8 (.one 9 (.one 10 (.two 11 12 (.one 12 (.one 13 .nil)) (.one 11 (.one 13 .nil)))))))))))))) (by kernel_rfl) (by kernel_rfl) ?_; conv => whnf) | (refine fork_in ?_ ?_ <;> conv => whnf) | ((first | refine fun (_ : _ ≤ maxLen) => ?_ | refine aGet_in rfl ?_ | refine And.intro (by omega) ?_ | refine load_same ?_ | refine And.intro (Nat.le_of_ble_eq_true rfl) ?_); conv => whnf) | (refine l3Value_call (by assumption) rfl rfl rfl rfl (by decide) (fun _ => ?_) (fun _ => ?_) <;> conv => whnf) | ((first | refine callG_t ?_ | refine sTensorOk_call ?_ | refine append_same ?_ | refine part_nd_n (by omega) ?_ | refine get_shF (by omega) ?_ | refine takeN_in ?_ | refine cut_ints ?_ | refine set_force ?_ | refine And.intro (And.intro (by kernel_rfl) (And.intro rfl (Nat.le_of_ble_eq_true rfl))) ?_ | refine And.intro (by kernel_rfl) ?_ | refine aIf_tt (by assumption) ?_); conv => whnf) | refine aIf_not ?_
              | (refine aIf_dec (fun _ => ?_) (fun _ => ?_) <;> conv => whnf))
            all_goals (first | contradiction | (exfalso; omega) | skip)
            · refine append_tl rfl hfl rfl rfl rfl (by omega) (Nat.zero_le _) ?_
              conv => whnf
              repeat' (first
                | ((first | refine tree_in2 (id := 8) (.one 0 (.one 1 (.one 2 (.one 3 (.one 4 (.one 5 (.one 6 (.one 7 (.one 8 (.one 9 (.one 10 (.two 11 12 (.one 12 (.one 13 .nil)) (.one 11 (.one 13 .nil)))))))))))))) (by kernel_rfl) (by kernel_rfl) ?_ | refine append_same ?_); conv => whnf))
              have hlen : (vs ++ [((vS (ns.getD vs.length default) (ss.getD vs.length []) ts vs).1, (vS (ns.getD vs.length default) (ss.getD vs.length []) ts vs).2)]).length = vs.length + 1 := by simp
              refine next_ut (vs ++ [((vS (ns.getD vs.length default) (ss.getD vs.length []) ts vs).1, (vS (ns.getD vs.length default) (ss.getD vs.length []) ts vs).2)]) (show ns.length - (vs ++ [((vS (ns.getD vs.length default) (ss.getD vs.length []) ts vs).1, (vS (ns.getD vs.length default) (ss.getD vs.length []) ts vs).2)]).length < ns.length - vs.length by omega) ⟨(by omega : (vs ++ [((vS (ns.getD vs.length default) (ss.getD vs.length []) ts vs).1, (vS (ns.getD vs.length default) (ss.getD vs.length []) ts vs).2)]).length ≤ ns.length), by rw [hlen, hef]; exact hn'⟩ ?_
              rw [hlen]
              conv => whnf
              refine to_close 3 (vs.length * 2 + 0) 5 _ _ 1 3 _ _ rfl (get_b0 hfl) rfl (by decide) (Nat.zero_le _) (by decide) (by simp) ?_
              refine to_close 3 (vs.length * 2 + 1) 6 _ _ 1 3 _ _ rfl (get_b1 hfl) rfl (by decide) (Nat.zero_le _) (by decide) (by simp) ?_
              refine St.le.to ?_
              conv => whnf
              repeat' (first | exact le_snocU rfl | exact le_shF (by omega) | refine And.intro ?_ ?_)
              repeat' (first
                | exact trivial | exact rfl
                | exact Or.inl (And.intro rfl rfl) | exact pureL_ii _ _
                | exact pureL_nd _ _ | exact pureL_tn _ _
                | refine Or.inr ?_ | refine And.intro ?_ ?_
                | exact Nat.le_of_ble_eq_true rfl | exact int_eq (by rw [IntWalk.i64_in _ (by omega)] <;> omega))
            · refine append_tl rfl hfl rfl rfl rfl (by omega) (Nat.zero_le _) ?_
              conv => whnf
              repeat' (first
                | ((first | refine tree_in2 (id := 8) (.one 0 (.one 1 (.one 2 (.one 3 (.one 4 (.one 5 (.one 6 (.one 7 (.one 8 (.one 9 (.one 10 (.two 11 12 (.one 12 (.one 13 .nil)) (.one 11 (.one 13 .nil)))))))))))))) (by kernel_rfl) (by kernel_rfl) ?_ | refine append_same ?_); conv => whnf))
              have hlen : (vs ++ [((vS (ns.getD vs.length default) (ss.getD vs.length []) ts vs).1, (vS (ns.getD vs.length default) (ss.getD vs.length []) ts vs).2)]).length = vs.length + 1 := by simp
              refine next_ut (vs ++ [((vS (ns.getD vs.length default) (ss.getD vs.length []) ts vs).1, (vS (ns.getD vs.length default) (ss.getD vs.length []) ts vs).2)]) (show ns.length - (vs ++ [((vS (ns.getD vs.length default) (ss.getD vs.length []) ts vs).1, (vS (ns.getD vs.length default) (ss.getD vs.length []) ts vs).2)]).length < ns.length - vs.length by omega) ⟨(by omega : (vs ++ [((vS (ns.getD vs.length default) (ss.getD vs.length []) ts vs).1, (vS (ns.getD vs.length default) (ss.getD vs.length []) ts vs).2)]).length ≤ ns.length), by rw [hlen, hef]; exact hn'⟩ ?_
              rw [hlen]
              conv => whnf
              refine to_close 3 (vs.length * 2 + 0) 8 _ _ 1 3 _ _ rfl (get_b0 hfl) rfl (by decide) (Nat.zero_le _) (by decide) (by simp) ?_
              refine to_close 3 (vs.length * 2 + 1) 9 _ _ 1 3 _ _ rfl (get_b1 hfl) rfl (by decide) (Nat.zero_le _) (by decide) (by simp) ?_
              refine St.le.to ?_
              conv => whnf
              repeat' (first | exact le_snocU rfl | exact le_shF (by omega) | refine And.intro ?_ ?_)
              repeat' (first
                | exact trivial | exact rfl
                | exact Or.inl (And.intro rfl rfl) | exact pureL_ii _ _
                | exact pureL_nd _ _ | exact pureL_tn _ _
                | refine Or.inr ?_ | refine And.intro ?_ ?_
                | exact Nat.le_of_ble_eq_true rfl | exact int_eq (by rw [IntWalk.i64_in _ (by omega)] <;> omega))
        | false =>
          have hT := told_false hlp hb
          have hT1 : tensorOk (vS (ns.getD vs.length default) (ss.getD vs.length []) ts vs).1 (vS (ns.getD vs.length default) (ss.getD vs.length []) ts vs).2 = false := by rw [hef]; exact hT
          have hM := vaM_n (xss := xss) (vaTo_none (vaTo_f hva hb) ns.length (by omega))
          conv => whnf
          repeat' (first
            | (refine tree_in2 (id := 8) (.one 0 (.one 1 (.one 2 (.one 3 (.one 4 (.one 5 (.one 6 (.one 7 (.one 8 (.one 9 (.one 10 (.two 11 12 (.one 12 (.one 13 .nil)) (.one 11 (.one 13 .nil)))))))))))))) (by kernel_rfl) (by kernel_rfl) ?_; conv => whnf) | (refine fork_in ?_ ?_ <;> conv => whnf) | ((first | refine fun (_ : _ ≤ maxLen) => ?_ | refine aGet_in rfl ?_ | refine And.intro (by omega) ?_ | refine load_same ?_ | refine And.intro (Nat.le_of_ble_eq_true rfl) ?_); conv => whnf) | (refine l3Value_call (by assumption) rfl rfl rfl rfl (by decide) (fun _ => ?_) (fun _ => ?_) <;> conv => whnf) | ((first | refine callG_t ?_ | refine sTensorOk_call ?_ | refine append_same ?_ | refine part_nd_n (by omega) ?_ | refine get_shF (by omega) ?_ | refine takeN_in ?_ | refine cut_ints ?_ | refine set_force ?_ | refine And.intro (by kernel_rfl) ?_ | refine aIf_ff (by assumption) ?_); conv => whnf) | refine aIf_not ?_
            | (refine aIf_dec (fun _ => ?_) (fun _ => ?_) <;> conv => whnf))
          all_goals (first | contradiction | (exfalso; omega) | skip)
          all_goals exact retVs hM rfl rfl rfl
      · have he : vs.length = ns.length := by omega
        conv => whnf
        repeat' (first
          | (refine tree_in2 (id := 8) (.one 0 (.one 1 (.one 2 (.one 3 (.one 4 (.one 5 (.one 6 (.one 7 (.one 8 (.one 9 (.one 10 (.two 11 12 (.one 12 (.one 13 .nil)) (.one 11 (.one 13 .nil)))))))))))))) (by kernel_rfl) (by kernel_rfl) ?_; conv => whnf) | (refine fork_in ?_ ?_ <;> conv => whnf) | ((first | refine fun (_ : _ ≤ maxLen) => ?_ | refine aGet_in rfl ?_ | refine And.intro (by omega) ?_ | refine callG_t ?_ | refine append_same ?_ | refine part_nd_n (by omega) ?_ | refine cut_tn rfl ?_ | refine get_shF (by omega) ?_ | refine cut_ints ?_); conv => whnf) | (refine aIf_dec (fun _ => ?_) (fun _ => ?_) <;> conv => whnf))
        all_goals (first | (exfalso; omega) | skip)
        exact retVs (vaM_t hP (by rw [← he]; exact hva)) rfl rfl rfl
  · have hM := vaM_f hP
    conv => whnf
    repeat' (first
      | ((first | refine tree_in2 (id := 8) (.one 0 (.one 1 (.one 2 (.one 3 (.one 4 (.one 5 (.one 6 (.one 7 (.one 8 (.one 9 (.one 10 (.two 11 12 (.one 12 (.one 13 .nil)) (.one 11 (.one 13 .nil)))))))))))))) (by kernel_rfl) (by kernel_rfl) ?_ | refine aGet_in rfl ?_ | refine load_same ?_ | refine And.intro rfl (And.intro (List.cons_ne_nil _ _) ?_) | refine And.intro (Nat.le_of_ble_eq_true rfl) ?_ | refine callG_t ?_ | refine append_same ?_ | refine And.intro (pureL_ii _ _) ?_ | refine And.intro (pureL_nd _ _) ?_ | refine And.intro (pureL_tn _ _) ?_ | refine sShapesOf_call (by assumption) ?_); conv => whnf) | (refine sInputsOk_call (by first | omega | assumption | (refine ⟨?_, ?_⟩ <;> first | assumption | omega) | (refine ⟨?_, ?_, ?_⟩ <;> first | assumption | omega)) ?_; conv => whnf) | ((first | refine takeN_in ?_ | refine And.intro (And.intro (by kernel_rfl) (And.intro rfl (Nat.le_of_ble_eq_true rfl))) ?_ | refine And.intro (by kernel_rfl) ?_); conv => whnf) | refine aIf_not ?_
      | (refine aIf_dec (fun _ => ?_) (fun _ => ?_) <;> conv => whnf))
    all_goals (first | contradiction | exact retVs hM rfl rfl rfl)
theorem sValuesOf_call {c d : Nat} {xss : List (List Int)} {ns : List Nd} {ts : List T2} {env : List AV} {rows : List Row} {ctr low : Nat} {k : AV → St → Prop} (hpre : eP ns)
    (h : k (.tup [.ref rows.length ctr 0 (vaM xss ns ts).1.length, .bool (vaM xss ns ts).2]) ⟨env, rows ++ [⟨ctr, 40, 2, (vaM xss ns ts).1.flatMap (tnO 3)⟩], ctr + 1, low⟩) :
    CallB Tryz.prog 29 ⟨env, rows, ctr, low⟩ [.agg [.sl c xss.length (xss.map (slI c)), .sl c ns.length (ns.flatMap (ndC c))], .sl d ts.length (ts.flatMap (tnC d))] k := callRB_in sValuesOf_sound (c, xss, ns, d, ts) hpre (protL_otn _ _) h
end Go.Proofs.YtjmdhfjemaoebaaGreat
