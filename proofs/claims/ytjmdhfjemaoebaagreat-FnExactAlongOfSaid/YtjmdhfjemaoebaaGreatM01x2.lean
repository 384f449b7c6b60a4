import Derived.Test.YtjmdhfjemaoebaaGreatM01x1
namespace Go.Am
open Go.RowKit
variable {D : Nat → Prop}
section
variable {P : Program} {w : World} {φ : Places} {s : St} {env : List Value}
theorem VR.int_inv {v : Value} {j : IntKind} {n : Int} {rows : List Row} {ctr : Nat} (h : VR D w φ rows ctr v (.int j n)) : v = .int j n := by cases h; rfl
theorem VR.bool_inv {v : Value} {b : Bool} {rows : List Row} {ctr : Nat} (h : VR D w φ rows ctr v (.bool b)) : v = .bool b := by cases h; rfl
theorem VR.str_inv {v : Value} {b : ByteArray} {rows : List Row} {ctr : Nat} (h : VR D w φ rows ctr v (.str b)) : v = .string b := by cases h; rfl
theorem VR.sl_inv {v : Value} {c n : Nat} {cells : List AV} {rows : List Row} {ctr : Nat} (h : VR D w φ rows ctr v (.sl c n cells)) : ∃ A cap, v = .slice A n cap ∧ n ≤ cap ∧ cap ≤ maxLen ∧
    (n = 0 ∧ cells = [] ∨ ∃ ad, A = some ad) := by
  cases h with
  | sl0 A cap c hm => exact ⟨A, cap, rfl, Nat.zero_le _, hm, .inl ⟨rfl, rfl⟩⟩
  | sl ad c n cap cells vs hs hF hD hlt hn hm hl hc h1 hv => exact ⟨some ad, cap, rfl, hn, hm, .inr ⟨ad, rfl⟩⟩
theorem add_of_add (a : Addr) (i j : Nat) : (a.add i).add j = a.add (i + j) := by
  unfold Addr.add
  by_cases hi : i = 0 <;> by_cases hj : j = 0 <;> simp [hi, hj, Nat.add_assoc]
theorem add_spot {a : Addr} (h : a.spot = none) (n : Nat) : (a.add n).spot = none := by unfold Addr.add; split <;> simp [h]
theorem VR.rd_of_sl {ad : Addr} {c n cap : Nat} {cells : List AV} {rows : List Row} {ctr : Nat} (h : VR D w φ rows ctr (.slice (some ad) n cap) (.sl c n cells)) (hn : 0 < n) (o : Nat) : VR D w φ rows ctr (.pointer (some (ad.add o))) (.rd (cells.drop o)) := by
  cases h with
  | sl0 A cap c hm => omega
  | sl _ _ _ _ _ vs hs hF hD hlt hn hm hl hc h1 hv =>
    refine .rd _ _ (vs.drop o) (add_spot hs o) (by rw [block_of_add]; exact hF) (by rw [block_of_add]; exact hlt) (by simp [hl]) (fun j hj => ?_) (fun v hm => h1 v (List.mem_of_mem_drop hm)) (fun j v u hv' hu => ?_)
    · simp only [List.length_drop] at hj
      rw [add_of_add, hc _ (by omega), List.getElem?_drop]
    · rw [List.getElem?_drop] at hv' hu
      exact hv _ v u hv' hu
theorem VR.rd_drop {ad : Addr} {cells : List AV} {rows : List Row} {ctr : Nat} (h : VR D w φ rows ctr (.pointer (some ad)) (.rd cells)) (o : Nat) : VR D w φ rows ctr (.pointer (some (ad.add o))) (.rd (cells.drop o)) := by
  cases h with
  | rd _ _ vs hs hF hlt hl hc h1 hv =>
    refine .rd _ _ (vs.drop o) (add_spot hs o) (by rw [block_of_add]; exact hF) (by rw [block_of_add]; exact hlt) (by simp [hl]) (fun j hj => ?_) (fun v hm => h1 v (List.mem_of_mem_drop hm)) (fun j v u hv' hu => ?_)
    · simp only [List.length_drop] at hj
      rw [add_of_add, hc _ (by omega), List.getElem?_drop]
    · rw [List.getElem?_drop] at hv' hu
      exact hv _ v u hv' hu
theorem aIndexAddr_ok {t : TypeId} {x i : AV} {xv iv : Value} {k : AV → Prop} (hx : VR D w φ s.rows s.ctr xv x) (hi : VR D w φ s.rows s.ctr iv i) (hk : aIndexAddr P s t x i k) :
    ∃ v u, (∀ w', (Instr.indexAt t xv iv).run P w' = .ok v w') ∧ VR D w φ s.rows s.ctr v u ∧ k u := by
  unfold aIndexAddr at hk
  split at hk
  · rename_i e hd
    split at hk
    case h_2 => exact hk.elim
    rename_i j i
    have := hi.int_inv; subst this
    split at hk
    · rename_i c n cells
      obtain ⟨z, hz, _, ⟨h0, h1⟩, hk⟩ := aSz_out hk
      obtain ⟨A, cap, rfl, _, _, hA⟩ := hx.sl_inv
      rcases hA with ⟨rfl, rfl⟩ | ⟨ad, rfl⟩
      · omega
      · refine ⟨.pointer (some (ad.add (i.toNat * z))), _, fun w' => ?_, hx.rd_of_sl (by omega) _, hk⟩
        simp [Instr.indexAt, asIntOf, run_underlying hd, run_tsz hz, h0, h1]
    · rename_i τ ver off n
      obtain ⟨z, hz, _, hk⟩ := aSz_out hk
      obtain ⟨r, hr, hver, ⟨h0, h1⟩, hk⟩ := aRow_out hk
      cases hx with
      | ref _ _ _ _ _ hlt h1' h =>
        rcases h r hr hver with ⟨_, _, rfl, _⟩ | ⟨g, A, cap, cur, a1, rfl, a3, a4, a5, a6, a7, a8⟩
        · omega
        · have hA := a6 (.inr (by omega)); subst hA
          refine ⟨.pointer (some ⟨g, off + i.toNat * z, none⟩), _, fun w' => ?_, .ptr τ ver _ _ hlt rfl fun r' hr' hv' => ⟨g, a1, rfl⟩, hk⟩
          simp [Instr.indexAt, asIntOf, run_underlying hd, run_tsz hz, h0, h1, add_mk]
    · exact hk.elim
  · exact hk.elim
def aFieldAddr (P : Program) (s : St) (t : TypeId) (p : AV) (f : Nat) (k : AV → Prop) : Prop :=
  match P.underlying t with
  | some (.struct fields) =>
    match fields[f]? with
    | some fd => aSz P fd.type fun _ =>
      match p with
      | .rd cells => k (.rd (cells.drop fd.offset))
      | .ptr τ ver off => aRow s τ ver fun _ => k (.ptr τ ver (off + fd.offset))
      | _ => False
    | none => False
  | _ => False
theorem aFieldAddr_ok {t : TypeId} {p : AV} {pv : Value} {f : Nat} {k : AV → Prop} (hp : VR D w φ s.rows s.ctr pv p) (hk : aFieldAddr P s t p f k) :
    ∃ v u, (∀ w', (Instr.fieldAt t pv f).run P w' = .ok v w') ∧ VR D w φ s.rows s.ctr v u ∧ k u := by
  unfold aFieldAddr at hk
  split at hk
  · rename_i fields hd
    split at hk
    case h_2 => exact hk.elim
    rename_i fd hf
    obtain ⟨z, hz, hz0, hk⟩ := aSz_out hk
    split at hk
    · obtain ⟨ad, rfl⟩ := hp.rd_inv
      refine ⟨.pointer (some (ad.add fd.offset)), _, fun w' => ?_, hp.rd_drop _, hk⟩
      simp [Instr.fieldAt, Instr.sureAddr, run_underlying hd, hf, fieldPlace, run_tsz hz, hz0]
    · rename_i τ ver off _
      obtain ⟨r, hr, hver, hk⟩ := aRow_out hk
      cases hp with
      | ptr _ _ _ _ hlt h1 hx =>
        obtain ⟨g, hg, rfl⟩ := hx r hr hver
        refine ⟨.pointer (some ⟨g, off + fd.offset, none⟩), _, fun w' => ?_, .ptr τ ver _ _ hlt rfl fun r' hr' hv' => ⟨g, hg, rfl⟩, hk⟩
        simp [Instr.fieldAt, Instr.sureAddr, run_underlying hd, hf, fieldPlace, run_tsz hz, hz0, add_mk]
    · exact hk.elim
  · exact hk.elim
def aField (P : Program) (t : TypeId) (x : AV) (f : Nat) (k : AV → Prop) : Prop :=
  match P.underlying t with
  | some (.struct fields) =>
    match x with
    | .agg cells =>
      match fields[f]? with
      | some fd => aPart P fd.type (cells.drop fd.offset) k
      | none => False
    | _ => False
  | _ => False
theorem aField_ok {t : TypeId} {x : AV} {xv : Value} {f : Nat} {k : AV → Prop} (hx : VR D w φ s.rows s.ctr xv x) (hk : aField P t x f k) :
    ∃ v u, (∀ w', (Instr.field t xv f).run P w' = .ok v w') ∧ VR D w φ s.rows s.ctr v u ∧ k u := by
  unfold aField at hk
  split at hk
  · rename_i fields hd
    split at hk
    case h_2 => exact hk.elim
    rename_i cells
    split at hk
    case h_2 => exact hk.elim
    rename_i fd hf
    cases hx with
    | agg cs _ hl h1 hv =>
      unfold aPart at hk
      split at hk
      · rename_i d hd'
        split at hk
        · rename_i hagg
          obtain ⟨n, hn, _, hk⟩ := aSz_out hk
          obtain ⟨hle, _, hk⟩ := takeN_out hk
          refine ⟨.agg (cs.extract fd.offset (fd.offset + n)), .agg ((cells.drop fd.offset).take n), fun w' => ?_, ?_, hk⟩
          · simp [Instr.field, run_underlying hd, hf, part, run_isAgg hd', hagg, asAgg, run_tsz hn]
          · simp only [List.length_drop] at hle
            refine .agg _ _ (by simp [List.length_take]; omega) (fun j v hj => ?_) (fun j v u hj hu => ?_)
            · rw [Array.getElem?_extract] at hj
              split at hj
              · exact h1 _ v hj
              · cases hj
            · rw [Array.getElem?_extract] at hj
              rw [List.getElem?_take] at hu
              split at hu
              · rw [List.getElem?_drop] at hu
                split at hj
                · exact hv _ v u hj hu
                · cases hj
              · cases hu
        · rename_i hagg
          obtain ⟨u, hu, hk⟩ := hk
          have hk : k u := by cases u <;> first | exact hk | exact hk.elim
          rw [List.getElem?_drop] at hu
          have hlt : fd.offset < cs.size := by rw [hl]; have := (List.getElem?_eq_some_iff.1 hu).1; omega
          have hc : cs[fd.offset]? = some cs[fd.offset] := Array.getElem?_eq_getElem hlt
          refine ⟨cs[fd.offset], u, fun w' => ?_, hv _ _ u hc hu, hk⟩
          have hagg' : isAggD d = false := by simpa using hagg
          simp [Instr.field, run_underlying hd, hf, part, run_isAgg hd', hagg', asAgg, hc]
      · exact hk.elim
  · exact hk.elim
theorem aBin_ok {op : BinOp} {t : TypeId} {x y : AV} {xv yv : Value} {xo yo : Operand} {k : AV → Prop} (hx : VR D w φ s.rows s.ctr xv x) (hy : VR D w φ s.rows s.ctr yv y) (hk : aBin P op t x y k) :
    ∃ v u, (∀ w', (do eqGuard op t xo yo xv yv; binOp op t xv yv : Sem Value).run P w' = .ok v w') ∧ VR D w φ s.rows s.ctr v u ∧ k u := by
  unfold aBin at hk
  split at hk
  · rename_i j a j' b
    split at hk
    case isFalse => exact hk.elim
    rename_i hjj
    subst hjj
    have := hx.int_inv; subst this
    have := hy.int_inv; subst this
    have hg : ∀ w', (eqGuard op t xo yo (.int j a) (.int j b)).run P w' = .ok () w' := fun w' => by unfold eqGuard; cases op <;> rfl
    cases op
    case xor => exact ⟨.int j (xorI j a b), _, fun w' => by simp only [Sem.run_bind, hg, binOp, Result.andThen_ok, ne_eq, not_true, if_false]; rfl, .int _ _, hk⟩
    case and => exact ⟨.int j (andI j a b), _, fun w' => by simp only [Sem.run_bind, hg, binOp, Result.andThen_ok, ne_eq, not_true, if_false]; rfl, .int _ _, hk⟩
    case or => exact ⟨.int j (orI j a b), _, fun w' => by simp only [Sem.run_bind, hg, binOp, Result.andThen_ok, ne_eq, not_true, if_false]; rfl, .int _ _, hk⟩
    all_goals simp only at hk
    all_goals first
      | exact hk.elim | (obtain ⟨h0, hk⟩ := hk; exact ⟨_, _, fun w' => by simp [hg, binOp, Op.intDiv, h0], .int _ _, hk⟩)
      | exact ⟨_, _, fun w' => by simp [hg, binOp, Op.intArith], .int _ _, hk⟩
      | exact ⟨_, _, fun w' => by simp [hg, binOp, Op.intCmp], .bool _, hk⟩
  · rename_i a b
    obtain ⟨hd, hk⟩ := hk
    have := hx.bool_inv; subst this
    have := hy.bool_inv; subst this
    have hg : ∀ w', (eqGuard op t xo yo (.bool a) (.bool b)).run P w' = .ok () w' := fun w' => by unfold eqGuard; cases op <;> rfl
    have he : ∀ w', (Op.equal t (.bool a) (.bool b)).run P w' = .ok (a == b) w' := fun w' => by
      unfold Op.equal Op.maxDepth
      rw [Op.equalIn]
      simp only [Sem.run_bind, run_underlying hd, Result.andThen_ok]
      rfl
    cases op
    case eql => exact ⟨.bool (a == b), _, fun w' => by simp [hg, binOp, he], .bool _, hk⟩
    case neq => exact ⟨.bool (!(a == b)), _, fun w' => by simp only [Sem.run_bind, hg, binOp, he, Result.andThen_ok, Sem.run_pure], .bool _, hk⟩
    all_goals exact hk.elim
  · rename_i a b
    have := hx.str_inv; subst this
    have := hy.str_inv; subst this
    have hg : ∀ w', (eqGuard op t xo yo (.string a) (.string b)).run P w' = .ok () w' := fun w' => by unfold eqGuard; cases op <;> rfl
    have h63 : IntKind.i64.max = 9223372036854775807 := rfl
    cases op <;> simp only at hk <;> first
      | exact hk.elim
      | (obtain ⟨h0, hk⟩ := hk; exact ⟨_, _, fun w' => by
          have : ¬ (IntKind.i64.max < ((a.size + b.size : Nat) : Int)) := by rw [h63]; omega
          simp only [Sem.run_bind, hg, Result.andThen_ok, binOp, Op.stringOp, gt_iff_lt, this, if_false, Sem.run_pure], .str _, hk⟩)
      | exact ⟨_, _, fun w' => by simp only [Sem.run_bind, hg, Result.andThen_ok, binOp, Op.stringOp, Sem.run_pure]; first | done | rfl, .bool _, hk⟩
  · exact hk.elim
theorem aUn_ok {op : UnOp} {x : AV} {xv : Value} {k : AV → Prop} (hx : VR D w φ s.rows s.ctr xv x) (hk : aUn op x k) :
    ∃ v u, (∀ w', (Op.unary op xv).run P w' = .ok v w') ∧ VR D w φ s.rows s.ctr v u ∧ k u := by
  unfold aUn at hk
  split at hk
  · have := hx.int_inv; subst this
    exact ⟨_, _, fun w' => by simp only [Op.unary, Op.intArith, Sem.run_pure], .int _ _, hk⟩
  · have := hx.bool_inv; subst this
    exact ⟨_, _, fun w' => by simp only [Op.unary, Sem.run_pure], .bool _, hk⟩
  · exact hk.elim
theorem aConv_ok {src dst : TypeId} {d : TypeDesc} {x : AV} {xv : Value} {k : AV → Prop} (hs : P.underlying src = some d) (hx : VR D w φ s.rows s.ctr xv x) (hk : aConv P dst x k) :
    ∃ v u, (∀ w', (convert src dst xv).run P w' = .ok v w') ∧ VR D w φ s.rows s.ctr v u ∧ k u := by
  unfold aConv at hk
  split at hk
  · rename_i j hd
    split at hk
    case h_2 => exact hk.elim
    have := hx.int_inv; subst this
    exact ⟨_, _, fun w' => by simp only [convert, Sem.run_bind, run_underlying hs, run_underlying hd, Result.andThen_ok, Conv.intToInt, Sem.run_pure], .int _ _, hk⟩
  · rename_i hd
    split at hk
    case h_2 => exact hk.elim
    have := hx.str_inv; subst this
    exact ⟨_, _, fun w' => by simp only [convert, Sem.run_bind, run_underlying hs, run_underlying hd, Result.andThen_ok, Sem.run_pure], .str _, hk⟩
  · exact hk.elim
theorem run_bound (P : Program) (j : IntKind) (i : Int) (y : Nat) (c : BoundsCode) (h : 0 ≤ i ∧ i ≤ y) (w : World) : (Instr.sliceBound (.int j i) y c).run P w = .ok i.toNat w := by
  simp [Instr.sliceBound, asIntOf, h.1, h.2]
theorem VR.cut {A : Option Addr} {c n cap : Nat} {cells : List AV} {rows : List Row} {ctr : Nat} (h : VR D w φ rows ctr (.slice A n cap) (.sl c n cells)) {z l m : Nat} (hl : l + m ≤ n) (hz : n * z ≤ cells.length) :
    VR D w φ rows ctr (.slice (if cap - l = 0 then A else A.map (·.add (l * z))) m (cap - l)) (.sl c m ((cells.drop (l * z)).take (m * z))) := by
  cases h with
  | sl0 A cap c hm =>
    have h0 : m = 0 := by omega
    subst h0
    simp only [Nat.zero_mul, List.take_zero]
    exact .sl0 _ _ _ (by omega)
  | sl ad _ _ _ _ vs hs hF hD hlt hn hm hl' hc h1 hv =>
    by_cases h0 : m = 0
    · subst h0
      simp only [Nat.zero_mul, List.take_zero]
      exact .sl0 _ _ _ (by omega)
    · have hne : ¬ (cap - l = 0) := by omega
      simp only [hne, if_false, Option.map_some]
      have hlz : l * z + m * z ≤ cells.length := by
        have : (l + m) * z ≤ n * z := Nat.mul_le_mul_right z hl
        rw [Nat.add_mul] at this
        omega
      refine .sl _ c m (cap - l) _ ((vs.drop (l * z)).take (m * z)) (add_spot hs _) (by rw [block_of_add]; exact hF) (by rw [block_of_add]; exact hD) (by rw [block_of_add]; exact hlt) (by omega) (by omega) (by simp [hl']) (fun j hj => ?_) (fun v hm' => h1 v (List.mem_of_mem_drop (List.mem_of_mem_take hm'))) (fun j v u hv' hu => ?_)
      · simp only [List.length_take, List.length_drop] at hj
        rw [add_of_add, hc _ (by omega), List.getElem?_take, if_pos (by omega), List.getElem?_drop]
      · rw [List.getElem?_take] at hv' hu
        split at hv'
        · rename_i hlt'
          rw [if_pos hlt'] at hu
          rw [List.getElem?_drop] at hv' hu
          exact hv _ v u hv' hu
        · cases hv'
theorem aSlice_ok {t : TypeId} {x : AV} {xv : Value} {lo hi : Option AV} {lov hiv : Option Value} {k : AV → Prop} (hx : VR D w φ s.rows s.ctr xv x)
    (hlo : match lo, lov with | some u, some v => VR D w φ s.rows s.ctr v u | none, none => True | _, _ => False) (hhi : match hi, hiv with | some u, some v => VR D w φ s.rows s.ctr v u | none, none => True | _, _ => False)
    (hk : aSlice P s t x lo hi k) :
    ∃ v u, (∀ w', (Instr.sliceAt t xv lov hiv none).run P w' = .ok v w') ∧ VR D w φ s.rows s.ctr v u ∧ k u := by
  unfold aSlice at hk
  split at hk
  · rename_i e hd
    split at hk
    case h_3 => exact hk.elim
    case h_2 =>
      rename_i τ ver off n
      split at hk
      case h_2 => exact hk.elim
      cases lov with
      | some _ => simp at hlo
      | none =>
      split at hk
      case h_2 => exact hk.elim
      rename_i j h
      cases hiv with
      | none => simp at hhi
      | some hv =>
      simp only at hhi
      have := hhi.int_inv; subst this
      obtain ⟨z, hz, _, hk⟩ := aSz_out hk
      obtain ⟨r, hr, hver, ⟨h0, h1⟩, hk'⟩ := aRow_out hk
      cases hx with
      | ref _ _ _ _ _ hlt h1c hx =>
        rcases hx r hr hver with ⟨a1, rfl, rfl, rfl⟩ | ⟨g, A, cap, cur, a1, rfl, a3, a4, a5, a6, a7, a8⟩
        · have hh : h = 0 := by omega
          subst hh
          refine ⟨.slice none 0 0, _, fun w' => ?_, .ref _ _ _ _ _ hlt rfl fun r' hr' hv' => .inl ⟨a1, rfl, rfl, rfl⟩, hk'⟩
          have b1 := fun w => run_bound P j 0 0 .sliceAcap ⟨by omega, by omega⟩ w
          simp [Instr.sliceAt, Instr.slice, Instr.sliceBounds, run_underlying hd, run_tsz hz, b1]
        · have b1 := fun w => run_bound P j h cap .sliceAcap ⟨by omega, by omega⟩ w
          refine ⟨.slice A h.toNat cap, _, fun w' => ?_, .ref _ _ _ _ _ hlt rfl fun r' hr' hv' => .inr ⟨g, A, cap, cur, a1, rfl, by omega, a4, ?_, fun ho => a6 (by omega), ?_, ?_⟩, hk'⟩
          · by_cases hc0 : cap = 0
            · subst hc0
              simp [Instr.sliceAt, Instr.slice, Instr.sliceBounds, run_underlying hd, run_tsz hz, b1]
            · cases A with
              | none => simp [Instr.sliceAt, Instr.slice, Instr.sliceBounds, run_underlying hd, run_tsz hz, b1, hc0]
              | some ad => simp [Instr.sliceAt, Instr.slice, Instr.sliceBounds, run_underlying hd, run_tsz hz, b1, Addr.add]
          · have : r' = r := by rw [hr] at hr'; cases hr'; rfl
            subst this; exact a5
          · have : r' = r := by rw [hr] at hr'; cases hr'; rfl
            subst this; exact a7
          · have : r' = r := by rw [hr] at hr'; cases hr'; rfl
            subst this
            exact Nat.le_trans (Nat.add_le_add_left (Nat.mul_le_mul_right _ (by omega)) _) a8
    rename_i c n cells
    have hk0 := aSz_out hk
    clear hk
    obtain ⟨z, hz, _, hle, hk⟩ := hk0
    obtain ⟨A, cap, rfl, hnc, hm, hA⟩ := hx.sl_inv
    have fin : ∀ (l m : Nat), l + m ≤ n → (∀ w', (Instr.sliceBounds true n cap lov hiv none).run P w' = .ok (l, l + m, cap) w') → k (.sl c m ((cells.drop (l * z)).take (m * z))) →
        ∃ v u, (∀ w', (Instr.sliceAt t (.slice A n cap) lov hiv none).run P w' = .ok v w') ∧ VR D w φ s.rows s.ctr v u ∧ k u := by
      intro l m hlm hb hk
      refine ⟨_, _, fun w' => ?_, hx.cut hlm hle, hk⟩
      have e1 : l + m - l = m := by omega
      by_cases h0 : cap - l = 0
      · have : cap = l := by omega
        subst this
        simp [Instr.sliceAt, Instr.slice, run_underlying hd, hb, run_tsz hz]
      · have : ¬ cap = l := by omega
        simp [Instr.sliceAt, Instr.slice, run_underlying hd, hb, run_tsz hz, e1, h0, this]
    split at hk
    · rename_i j l
      cases lov with
      | none => simp at hlo
      | some lv =>
        simp only at hlo
        have := hlo.int_inv; subst this
        split at hk
        · rename_i j' h
          cases hiv with
          | none => simp at hhi
          | some hv =>
            simp only at hhi
            have := hhi.int_inv; subst this
            obtain ⟨⟨h0, h1, h2⟩, hk⟩ := hk
            refine fin l.toNat (h.toNat - l.toNat) (by omega) (fun w' => ?_) hk
            have b1 := fun w => run_bound P j' h cap .sliceAcap ⟨by omega, by omega⟩ w
            have b2 := fun w => run_bound P j l h.toNat .sliceB ⟨by omega, by omega⟩ w
            simp [Instr.sliceBounds, b1, b2]
            omega
        · cases hiv with
          | some _ => simp at hhi
          | none =>
            obtain ⟨⟨h0, h1⟩, hk⟩ := hk
            refine fin l.toNat (n - l.toNat) (by omega) (fun w' => ?_) hk
            have b2 := fun w => run_bound P j l n .sliceB ⟨by omega, by omega⟩ w
            simp [Instr.sliceBounds, b2]
            omega
        · exact hk.elim
    · cases lov with
      | some _ => simp at hlo
      | none =>
        split at hk
        · rename_i j' h
          cases hiv with
          | none => simp at hhi
          | some hv =>
            simp only at hhi
            have := hhi.int_inv; subst this
            obtain ⟨⟨h0, h1⟩, hk⟩ := hk
            refine fin 0 h.toNat (by omega) (fun w' => ?_) (by simpa using hk)
            have b1 := fun w => run_bound P j' h cap .sliceAcap ⟨by omega, by omega⟩ w
            simp [Instr.sliceBounds, b1]
        · exact hk.elim
    · exact hk.elim
  · exact hk.elim
def aLen (P : Program) (t : TypeId) (s : St) (x : AV) (k : AV → Prop) : Prop :=
  match P.underlying t with
  | some (.slice _) =>
    match x with
    | .nil => k (.int .i64 0)
    | .sl _ n _ => n ≤ maxLen → k (.int .i64 n)
    | .ref τ ver _ n => aRow s τ ver fun _ => n ≤ maxLen → k (.int .i64 n)
    | _ => False
  | some .string =>
    match x with
    | .str b => k (.int .i64 b.size)
    | _ => False
  | _ => False
theorem aLen_ok {t : TypeId} {x : AV} {xv : Value} {k : AV → Prop} (hx : VR D w φ s.rows s.ctr xv x) (hk : aLen P t s x k) :
    ∃ v u, (∀ w', (Builtin.len_ #[t] 0 #[xv]).run P w' = .ok v w') ∧ VR D w φ s.rows s.ctr v u ∧ k u := by
  unfold aLen at hk
  split at hk
  · rename_i e hd
    split at hk
    · cases hx with
      | nil => exact ⟨_, _, fun w' => by simp [Builtin.len_, run_underlying hd, goInt], .int _ _, hk⟩
    · rename_i c n cells
      obtain ⟨A, cap, rfl, hnc, hm, hA⟩ := hx.sl_inv
      exact ⟨_, _, fun w' => by simp [Builtin.len_, run_underlying hd, goInt], .int _ _, hk (by omega)⟩
    · rename_i τ ver off n
      obtain ⟨r, hr, hver, hk⟩ := aRow_out hk
      cases hx with
      | ref _ _ _ _ _ hlt h1' h =>
        rcases h r hr hver with ⟨_, rfl, rfl, _⟩ | ⟨g, A, cap, cur, a1, rfl, a3, a4, a5, a6, a7, a8⟩
        · exact ⟨_, _, fun w' => by simp [Builtin.len_, run_underlying hd, goInt], .int _ _, hk (Nat.zero_le _)⟩
        · exact ⟨_, _, fun w' => by simp [Builtin.len_, run_underlying hd, goInt], .int _ _, hk (by omega)⟩
    · exact hk.elim
  · rename_i hd
    split at hk
    case h_2 => exact hk.elim
    have := hx.str_inv; subst this
    exact ⟨_, _, fun w' => by simp [Builtin.len_, run_underlying hd, goInt], .int _ _, hk⟩
  · exact hk.elim
def aExtract (x : AV) (i : Nat) (k : AV → Prop) : Prop :=
  match x with
  | .tup us => aGet us i k
  | _ => False
theorem aExtract_ok {x : AV} {xv : Value} {i : Nat} {k : AV → Prop} (hx : VR D w φ s.rows s.ctr xv x) (hk : aExtract x i k) :
    ∃ v u, (∀ w', (Instr.extract xv i).run P w' = .ok v w') ∧ VR D w φ s.rows s.ctr v u ∧ k u := by
  unfold aExtract at hk
  split at hk
  · rename_i us
    obtain ⟨u, hu, hk⟩ := hk
    cases hx with
    | tup vs _ hl hv =>
      have hlt : i < vs.size := by rw [hl]; exact (List.getElem?_eq_some_iff.1 hu).1
      have hc : vs[i]? = some vs[i] := Array.getElem?_eq_getElem hlt
      exact ⟨_, u, fun w' => by simp [Instr.extract, hc], hv _ _ _ hc hu, hk⟩
  · exact hk.elim
def aNil (s : St) (x : AV) (k : AV → Prop) : Prop :=
  match x with
  | .rd _ => k x
  | .ptr τ ver _ => aRow s τ ver fun _ => k x
  | _ => False
def aIndex (P : Program) (t : TypeId) (x i : AV) (k : AV → Prop) : Prop :=
  match P.underlying t with
  | some .string =>
    match x, i with
    | .str b, .int _ i => ∃ h : 0 ≤ i ∧ i.toNat < b.size, k (.int .u8 (b[i.toNat]'h.2).toNat)
    | _, _ => False
  | _ => False
theorem aIndex_ok {t : TypeId} {x i : AV} {xv iv : Value} {k : AV → Prop} (hx : VR D w φ s.rows s.ctr xv x) (hi : VR D w φ s.rows s.ctr iv i) (hk : aIndex P t x i k) :
    ∃ v u, (∀ w', (Instr.index t xv iv).run P w' = .ok v w') ∧ VR D w φ s.rows s.ctr v u ∧ k u := by
  unfold aIndex at hk
  split at hk
  · rename_i hd
    split at hk
    case h_2 => exact hk.elim
    rename_i b j i
    obtain ⟨⟨h0, h1⟩, hk⟩ := hk
    have := hx.str_inv; subst this
    have := hi.int_inv; subst this
    have hb : b[i.toNat]? = some b[i.toNat] := by simp [h1]
    exact ⟨_, _, fun w' => by simp only [Instr.index, asIntOf, Sem.run_bind, Sem.run_pure, Result.andThen_ok, run_underlying hd, h0, if_true, hb], .int _ _, hk⟩
  · exact hk.elim
end
end Go.Am
namespace Go.Am
open Go.RowKit
variable {D : Nat → Prop}
def aVal (P : Program) (o : Oper) (s : St) (k : AV → Prop) : Prop :=
  match o.op with
  | .move x => k (s.ev x)
  | .assign x => k (s.ev x)
  | .pick c a b =>
    match s.ev c with
    | .bool c => aIf c (k (s.ev a)) (k (s.ev b))
    | _ => False
  | .load t a => aLoad P s t (s.ev a) k
  | .nilCheck x => aNil s (s.ev x) k
  | .binOp op t x y _ => aBin P op t (s.ev x) (s.ev y) k
  | .unOp op _ x => aUn op (s.ev x) k
  | .convert src dst x =>
    match P.underlying src with
    | some _ => aConv P dst (s.ev x) k
    | none => False
  | .slice t x lo hi mx =>
    match mx with
    | none => aSlice P s t (s.ev x) (lo.map s.ev) (hi.map s.ev) k
    | some _ => False
  | .fieldAddr t x f => aFieldAddr P s t (s.ev x) f k
  | .field t x f => aField P t (s.ev x) f k
  | .indexAddr t x i => aIndexAddr P s t (s.ev x) (s.ev i) k
  | .index t x i => aIndex P t (s.ev x) (s.ev i) k
  | .extract x i => aExtract (s.ev x) i k
  | .call c =>
    match c.callee with
    | .builtin .len =>
      match c.args.toList, c.argTypes.toList with
      | [x], [t] => aLen P t s (s.ev x) k
      | _, _ => False
    | _ => False
  | _ => False
section
variable {P : Program} {w : World} {φ : Places} {s : St}
def loadsO (o : Oper) : Bool :=
  match o.op with
  | .load _ _ => true
  | _ => false
theorem aVal_okL {a : Act} {o : Oper} {k : AV → Prop} (h : SR D w φ a.tmps.toList s) (hk : aVal P o s k) :
    ∃ v u, (∀ w', (loadsO o = true → Ext w w') → (execOp a.eval o).run P w' = .ok (.value v) w') ∧ VR D w φ s.rows s.ctr v u ∧ k u := by
  unfold aVal at hk
  split at hk
  · rename_i x ho
    exact ⟨_, _, fun w' _ => by simp [execOp, ho], h.ev x, hk⟩
  · rename_i x ho
    exact ⟨_, _, fun w' _ => by simp [execOp, ho], h.ev x, hk⟩
  · rename_i c x y ho
    have hc := h.ev c
    generalize s.ev c = cu at hk hc
    split at hk
    case h_2 => exact hk.elim
    rename_i b
    have hb := hc.bool_inv
    cases b with
    | true => exact ⟨_, _, fun w' _ => by simp [execOp, ho, hb, asBool], h.ev x, hk.1 rfl⟩
    | false => exact ⟨_, _, fun w' _ => by simp [execOp, ho, hb, asBool], h.ev y, hk.2 rfl⟩
  · rename_i t x ho
    obtain ⟨v, u, h1, h2, h3⟩ := aLoad_ok h (h.ev x) hk
    exact ⟨v, u, fun w' hw => by simp [execOp, ho, h1 w' (hw (by simp [loadsO, ho]))], h2, h3⟩
  · rename_i x ho
    have hx := h.ev x
    unfold aNil at hk
    generalize s.ev x = xu at hk hx
    generalize hv : a.eval x = xv at hx
    split at hk
    · cases hx with
      | rd ad _ vs hs hF hlt hl hc h1 hv' => exact ⟨_, _, fun w' _ => by simp only [execOp, ho, hv, Sem.run_pure], .rd ad _ vs hs hF hlt hl hc h1 hv', hk⟩
    · obtain ⟨r, hr, hver, hk⟩ := aRow_out hk
      cases hx with
      | ptr _ _ _ _ hlt h1 hp =>
        obtain ⟨g, hg, rfl⟩ := hp r hr hver
        exact ⟨_, _, fun w' _ => by simp only [execOp, ho, hv, Sem.run_pure], .ptr _ _ _ _ hlt h1 hp, hk⟩
    · exact hk.elim
  · rename_i op t x y yt ho
    obtain ⟨v, u, h1, h2, h3⟩ := aBin_ok (xo := x) (yo := y) (h.ev x) (h.ev y) hk
    refine ⟨v, u, fun w' hw => ?_, h2, h3⟩
    have e := h1 w'
    unfold execOp
    simp only [ho]
    rw [Sem.run_bind, e]
    rfl
  · rename_i op t x ho
    obtain ⟨v, u, h1, h2, h3⟩ := aUn_ok (P := P) (h.ev x) hk
    exact ⟨v, u, fun w' hw => by simp [execOp, ho, h1 w'], h2, h3⟩
  · rename_i src dst x ho
    split at hk
    case h_2 => exact hk.elim
    rename_i d hd
    obtain ⟨v, u, h1, h2, h3⟩ := aConv_ok hd (h.ev x) hk
    exact ⟨v, u, fun w' hw => by simp [execOp, ho, h1 w'], h2, h3⟩
  · rename_i t x lo hi mx ho
    split at hk
    case h_2 => exact hk.elim
    obtain ⟨v, u, h1, h2, h3⟩ := aSlice_ok (lov := lo.map a.eval) (hiv := hi.map a.eval) (h.ev x) (by cases lo <;> simp [h.ev]) (by cases hi <;> simp [h.ev]) hk
    exact ⟨v, u, fun w' hw => by simp [execOp, ho, h1 w'], h2, h3⟩
  · rename_i t x f ho
    obtain ⟨v, u, h1, h2, h3⟩ := aFieldAddr_ok (h.ev x) hk
    exact ⟨v, u, fun w' hw => by simp [execOp, ho, h1 w'], h2, h3⟩
  · rename_i t x f ho
    obtain ⟨v, u, h1, h2, h3⟩ := aField_ok (h.ev x) hk
    exact ⟨v, u, fun w' hw => by simp [execOp, ho, h1 w'], h2, h3⟩
  · rename_i t x i ho
    obtain ⟨v, u, h1, h2, h3⟩ := aIndexAddr_ok (h.ev x) (h.ev i) hk
    exact ⟨v, u, fun w' hw => by simp [execOp, ho, h1 w'], h2, h3⟩
  · rename_i t x i ho
    obtain ⟨v, u, h1, h2, h3⟩ := aIndex_ok (h.ev x) (h.ev i) hk
    exact ⟨v, u, fun w' hw => by simp [execOp, ho, h1 w'], h2, h3⟩
  · rename_i x i ho
    obtain ⟨v, u, h1, h2, h3⟩ := aExtract_ok (P := P) (h.ev x) hk
    exact ⟨v, u, fun w' hw => by simp [execOp, ho, h1 w'], h2, h3⟩
  · rename_i c ho
    split at hk
    · rename_i hc
      split at hk
      case h_2 => exact hk.elim
      rename_i x t ha' ht'
      have ha : c.args = #[x] := by rw [← Array.toList_inj]; exact ha'
      have ht : c.argTypes = #[t] := by rw [← Array.toList_inj]; exact ht'
      obtain ⟨v, u, h1, h2, h3⟩ := aLen_ok (P := P) (h.ev x) hk
      refine ⟨v, u, fun w' hw => ?_, h2, h3⟩
      have e : ∀ ty, Builtin.len_ #[t] ty #[a.eval x] = Builtin.len_ #[t] 0 #[a.eval x] := fun _ => rfl
      simp [execOp, ho, resolve, hc, ha, ht, invoke, builtin, e, h1 w']
    · exact hk.elim
  · exact hk.elim
theorem aVal_ok {a : Act} {o : Oper} {k : AV → Prop} (h : SR D w φ a.tmps.toList s) (hk : aVal P o s k) :
    ∃ v u, (∀ w', Ext w w' → (execOp a.eval o).run P w' = .ok (.value v) w') ∧ VR D w φ s.rows s.ctr v u ∧ k u := by
  obtain ⟨v, u, h1, h2, h3⟩ := aVal_okL h hk
  exact ⟨v, u, fun w' hw => h1 w' fun _ => hw, h2, h3⟩
theorem getElem?_snoc {α : Type} (l : List α) (x : α) (t : Nat) : (l ++ [x])[t]? = if t < l.length then l[t]? else if t = l.length then some x else none := by
  by_cases h : t < l.length
  · rw [if_pos h, List.getElem?_append_left h]
  · by_cases e : t = l.length
    · subst e; simp
    · have : l.length + 1 ≤ t := by omega
      simp [h, e]; omega
def St.push (s : St) (r : Row) : St := { s with rows := s.rows ++ [r], ctr := s.ctr + 1 }
theorem SR.push {env : List Value} (h : SR D w φ env s) {w' : World} {r : Row} {ob : Option Nat} (hv : r.ver = s.ctr) (hw : Ext w w') (hob : ∀ g, ob = some g → w.heap.size ≤ g ∧ g < w'.heap.size)
    (hrow : RowOk D w' (φ.snoc ob) (s.rows ++ [r]) (s.ctr + 1) r ob fun _ => noFoot) (hz : r.size = 0 → ob = none) : SR D w' (φ.snoc ob) env (s.push r) ∧ Mv w φ s.rows s.ctr w' (φ.snoc ob) (s.push r).rows (s.push r).ctr := by
  have hlen := h.len
  obtain ⟨ω, hn⟩ := h.nest
  have m : Mv w φ s.rows s.ctr w' (φ.snoc ob) (s.push r).rows (s.push r).ctr := by
    refine ⟨hw.sz, by simp [St.push], fun b hb hF => ⟨?_, hw.bl b hb⟩, fun t r' hr' hlt => ?_⟩
    · rintro (h1 | h1)
      · exact hF h1
      · have := (hob b h1).1
        omega
    · simp only [St.push] at hr'
      rw [getElem?_snoc] at hr'
      split at hr'
      · rename_i ht
        refine ⟨r', hr', rfl, rfl, rfl, ?_, fun g cur hg hc => ⟨cur, ?_, rfl⟩⟩
        · simp only [Places.snoc]
          rw [List.getElem?_append_left (by omega)]
        · rw [hw.bl g (lt_of_heap hc)]; exact hc
      · split at hr'
        · cases hr'; omega
        · cases hr'
  have hnest : Nest D w' (φ.snoc ob) (s.push r).rows (s.push r).ctr ω := by
    refine ⟨fun t r' ob' hr' hob' => ?_, fun t ht j => ?_, ⟨hn.ap.uq, fun t j p b hb hm => ?_, fun t j p b hb => .inl (hn.ap.oc t j p b hb)⟩⟩
    · simp only [St.push, Places.snoc] at hr' hob'
      rw [getElem?_snoc] at hr' hob'
      split at hr'
      · rename_i ht
        rw [if_pos (by omega)] at hob'
        refine (hn.row t r' ob' hr' hob').mv m (fun g hg => hw.bl g (h.lt g (h.occ g ?_))) (fun j p b hF => hw.bl b (h.lt b (hn.ap.oc t j p b hF)))
        subst hg
        exact List.mem_of_getElem? hob'
      · split at hr'
        · rename_i ht
          rw [if_neg (by omega), if_pos (by omega)] at hob'
          cases hr'; cases hob'
          have e : ω t = fun _ => noFoot := funext fun j => hn.out t (List.getElem?_eq_none (by omega)) j
          rw [e]
          exact hrow
        · cases hr'
    · refine hn.out t (List.getElem?_eq_none ?_) j
      simp only [St.push] at ht
      rw [List.getElem?_eq_none_iff] at ht
      simp at ht; omega
    · simp only [Places.snoc, List.mem_append, List.mem_singleton] at hm
      rcases hm with hm | hm
      · exact hn.ap.nf t j p b hb hm
      · have h1 := (hob b hm.symm).1
        have h2 := h.lt b (hn.ap.oc t j p b hb)
        omega
  have hlt' : ∀ g, (φ.snoc ob).O g → g < w'.heap.size := fun g hg => by
    rcases hg with hg | hg
    · exact Nat.lt_of_lt_of_le (h.lt g hg) hw.sz
    · exact (hob g hg).2
  refine ⟨h.mv m rfl (by simp [St.push, Places.snoc, hlen]) (by have := h.lo; simp only [St.push, List.length_append]; omega) (fun t t' g hg hg' => ?_) hlt' (fun g hg => ?_) (fun r' hr' => ?_) ⟨ω, hnest⟩ (fun t r' hr' hz' => ?_) (fun g hg => ?_), m⟩
  · simp only [Places.snoc] at hg hg'
    rw [getElem?_snoc] at hg hg'
    split at hg
    · rename_i h1
      have m1 : some g ∈ φ.l := List.mem_of_getElem? hg
      split at hg'
      · exact h.inj t t' g hg hg'
      · split at hg'
        · cases hg'; have := h.lt g (h.occ g m1); have := (hob g rfl).1; omega
        · cases hg'
    · split at hg
      · cases hg
        split at hg'
        · have m1 : some g ∈ φ.l := List.mem_of_getElem? hg'
          have := h.lt g (h.occ g m1); have := (hob g rfl).1; omega
        · split at hg'
          · omega
          · cases hg'
      · cases hg
  · simp only [Places.snoc, List.mem_append, List.mem_singleton] at hg
    rcases hg with hg | hg
    · exact .inl (h.occ g hg)
    · exact .inr hg.symm
  · simp only [St.push, List.mem_append, List.mem_singleton] at hr' ⊢
    rcases hr' with hr' | rfl
    · have := h.ver r' hr'; omega
    · omega
  · simp only [St.push] at hr'
    simp only [Places.snoc]
    rw [getElem?_snoc] at hr' ⊢
    split at hr'
    · rename_i ht
      rw [if_pos (by omega)]
      exact h.sz0 t r' hr' hz'
    · split at hr'
      · rename_i ht
        cases hr'
        rw [if_neg (by omega), if_pos (by omega), hz hz']
      · cases hr'
  · rcases hg with hg | hg
    · exact h.dis g hg
    · intro hd; have := h.dlt g hd; have := (hob g hg).1; omega
def tyAt : List (TypeId × Nat) → TypeId × Nat
  | [] => (0, 0)
  | x :: _ => x
def aTysF (f : TypeId → (List (TypeId × Nat) → Prop) → Prop) : List Field → (List (TypeId × Nat) → Prop) → Prop
  | [], k => k []
  | x :: xs, k => f x.type fun l => aTysF f xs fun l' => k (l ++ l')
def aTys (P : Program) : Nat → TypeId → (List (TypeId × Nat) → Prop) → Prop
  | 0, _, k => k []
  | n + 1, t, k =>
    match P.underlying t with
    | some (.slice e) =>
      match tsz P e with
      | some 1 => k [(e, 1)]
      | some (m + 2) => k [(e, m + 2)]
      | _ => k [(0, 0)]
    | some (.struct fs) => aTysF (aTys P n) fs.toList k
    | _ => k [(0, 0)]
theorem aTysF_out {f : TypeId → (List (TypeId × Nat) → Prop) → Prop} (hf : ∀ t k, f t k → ∃ l, k l) : ∀ (fs : List Field) (k : List (TypeId × Nat) → Prop), aTysF f fs k → ∃ l, k l
  | [], k, h => ⟨[], h⟩
  | x :: xs, k, h => by
    obtain ⟨l, h⟩ := hf _ _ h
    obtain ⟨l', h⟩ := aTysF_out hf xs _ h
    exact ⟨_, h⟩
theorem aTys_out {P : Program} : ∀ (n : Nat) (t : TypeId) (k : List (TypeId × Nat) → Prop), aTys P n t k → ∃ l, k l
  | 0, t, k, h => ⟨[], h⟩
  | n + 1, t, k, h => by
    unfold aTys at h
    split at h
    · split at h <;> exact ⟨_, h⟩
    · exact aTysF_out (aTys_out n) _ _ h
    · exact ⟨_, h⟩
def St.own (s : St) (ez : TypeId × Nat) (u : AV) : AV × St :=
  match u with
  | .nil => (.ref s.rows.length s.ctr 0 0, s.push ⟨s.ctr, ez.1, ez.2, []⟩)
  | u => (u, s)
theorem SR.own {env : List Value} (h : SR D w φ env s) (ez : TypeId × Nat) {v : Value} {u : AV} (hv : VR D w φ s.rows s.ctr v u) :
    ∃ φ', SR D w φ' env (s.own ez u).2 ∧ VR D w φ' (s.own ez u).2.rows (s.own ez u).2.ctr v (s.own ez u).1 ∧ Mv w φ s.rows s.ctr w φ' (s.own ez u).2.rows (s.own ez u).2.ctr ∧ (∀ g, φ'.O g → φ.O g) ∧ (∀ i : Nat, i < φ.l.length → φ'.l[i]? = φ.l[i]?) ∧ (s.own ez u).2.low = s.low := by
  unfold St.own
  split
  · obtain ⟨h1, h2⟩ := h.push (r := ⟨s.ctr, ez.1, ez.2, []⟩) (ob := none) rfl (Ext.refl w) (fun g hg => by cases hg) ⟨rfl, fun _ => rfl⟩ (fun _ => rfl)
    refine ⟨φ.snoc none, h1, ?_, h2, fun g hg => by simpa [Places.snoc] using hg, fun i hi => List.getElem?_append_left hi, rfl⟩
    cases hv with
    | nil =>
      refine .ref _ _ _ _ _ (by simp [St.push]) rfl fun r hr hver => .inl ⟨?_, rfl, rfl, rfl⟩
      rw [← h.len]; simp [Places.snoc]
  · exact ⟨φ, h, hv, ⟨Nat.le_refl _, Nat.le_refl _, fun b hb hF => ⟨hF, rfl⟩, fun t r' hr' _ => ⟨r', hr', rfl, rfl, rfl, rfl, fun g cur _ hc => ⟨cur, hc, rfl⟩⟩⟩, fun g hg => hg, fun _ _ => rfl, rfl⟩
end
end Go.Am
namespace Go.Am
open Go.RowKit
variable {D : Nat → Prop}
def AV.known : AV → Bool
  | .un | .tup _ | .rd _ => false
  | _ => true
section
variable {P : Program} {w : World} {φ : Places} {s : St} {env : List Value}
theorem VR.cells {v : Value} {u : AV} {rows : List Row} {ctr : Nat} (h : VR D w φ rows ctr v u) (hk : u.known = true) : v.cells.size = u.cells.length ∧
    ∀ (j : Nat) (x : Value) (y : AV), v.cells[j]? = some x → u.cells[j]? = some y → x.oneCell' = true ∧ VR D w φ rows ctr x y := by
  have one : ∀ (v : Value) (u : AV), v.cells = #[v] → u.cells = [u] → v.oneCell' = true → VR D w φ rows ctr v u → v.cells.size = u.cells.length ∧
    ∀ (j : Nat) (x : Value) (y : AV), v.cells[j]? = some x → u.cells[j]? = some y → x.oneCell' = true ∧ VR D w φ rows ctr x y := by
    intro v u e1 e2 e3 e4
    rw [e1, e2]
    refine ⟨rfl, fun j x y hx hy => ?_⟩
    cases j with
    | zero => simp at hx hy; subst hx; subst hy; exact ⟨e3, e4⟩
    | succ j => simp at hy
  cases h with
  | un v => simp [AV.known] at hk
  | int k n => exact one _ _ rfl rfl rfl (.int k n)
  | bool b => exact one _ _ rfl rfl rfl (.bool b)
  | str b => exact one _ _ rfl rfl rfl (.str b)
  | nil => exact one _ _ rfl rfl rfl .nil
  | sl0 A cap c hm => exact one _ _ rfl rfl rfl (.sl0 A cap c hm)
  | sl ad c n cap cells vs hs hF hD hlt hn hm hl hc h1 hv => exact one _ _ rfl rfl rfl (.sl ad c n cap cells vs hs hF hD hlt hn hm hl hc h1 hv)
  | rd ad cells vs hs hF hlt hl hc h1 hv => simp [AV.known] at hk
  | agg cs cells hl h1 hv => exact ⟨hl, fun j x y hx hy => ⟨h1 j x hx, hv j x y hx hy⟩⟩
  | tup vs us hl hv => simp [AV.known] at hk
  | ref t ver off n v hlt h1 h =>
    refine one _ _ ?_ rfl h1 (.ref t ver off n v hlt h1 h)
    cases v <;> first | rfl | simp [Value.oneCell'] at h1
  | ptr t ver off v hlt h1 h =>
    refine one _ _ ?_ rfl h1 (.ptr t ver off v hlt h1 h)
    cases v <;> first | rfl | simp [Value.oneCell'] at h1
def St.ownAll (s : St) : List (TypeId × Nat) → List AV → List AV × St
  | _, [] => ([], s)
  | ts, u :: us => ((s.own (tyAt ts) u).1 :: ((s.own (tyAt ts) u).2.ownAll ts.tail us).1, ((s.own (tyAt ts) u).2.ownAll ts.tail us).2)
theorem Mv.refl (w : World) (φ : Places) (rows : List Row) (ctr : Nat) : Mv w φ rows ctr w φ rows ctr := Mv.same (Nat.le_refl _) fun _ _ => rfl
theorem Mv.trans {w w' w'' : World} {φ φ' φ'' : Places} {rows rows' rows'' : List Row} {ctr ctr' ctr'' : Nat} (h : Mv w φ rows ctr w' φ' rows' ctr') (h' : Mv w' φ' rows' ctr' w'' φ'' rows'' ctr'') : Mv w φ rows ctr w'' φ'' rows'' ctr'' := by
  refine ⟨Nat.le_trans h.sz h'.sz, Nat.le_trans h.ct h'.ct, fun b hb hF => ?_, fun t r'' hr hlt => ?_⟩
  · obtain ⟨h1, h2⟩ := h.st b hb hF
    obtain ⟨h3, h4⟩ := h'.st b (Nat.lt_of_lt_of_le hb h.sz) h1
    exact ⟨h3, h4.trans h2⟩
  · obtain ⟨r', a1, a2, a3, a4, a5, a6⟩ := h'.rf t r'' hr (Nat.lt_of_lt_of_le hlt h.ct)
    obtain ⟨r, b1, b2, b3, b4, b5, b6⟩ := h.rf t r' a1 (by omega)
    refine ⟨r, b1, b2.trans a2, b3.trans a3, b4.trans a4, a5.trans b5, fun g cur hg hc => ?_⟩
    obtain ⟨cur', c1, c2⟩ := b6 g cur hg hc
    obtain ⟨cur'', d1, d2⟩ := a6 g cur' (by rw [b5]; exact hg) (by rw [← b3]; exact c1)
    exact ⟨cur'', by rw [b3]; exact d1, d2.trans c2⟩
theorem SR.ownAll : ∀ (ts : List (TypeId × Nat)) (us : List AV) {φ : Places} {s : St} (_ : SR D w φ env s) (vs : List Value) (_ : vs.length = us.length) (_ : ∀ (j : Nat) (v : Value) (u : AV), vs[j]? = some v → us[j]? = some u → VR D w φ s.rows s.ctr v u),
    ∃ φ', SR D w φ' env (s.ownAll ts us).2 ∧ (s.ownAll ts us).1.length = us.length ∧ (∀ (j : Nat) (v : Value) (u : AV), vs[j]? = some v → (s.ownAll ts us).1[j]? = some u → VR D w φ' (s.ownAll ts us).2.rows (s.ownAll ts us).2.ctr v u) ∧
      Mv w φ s.rows s.ctr w φ' (s.ownAll ts us).2.rows (s.ownAll ts us).2.ctr ∧ (∀ g, φ'.O g → φ.O g) ∧ (∀ i : Nat, i < φ.l.length → φ'.l[i]? = φ.l[i]?) ∧ (s.ownAll ts us).2.low = s.low
  | ts, [], φ, s, h, vs, hl, hv => ⟨φ, h, rfl, fun j v u _ hu => by simp [St.ownAll] at hu, Mv.refl _ _ _ _, fun g hg => hg, fun _ _ => rfl, rfl⟩
  | ts, u :: us, φ, s, h, vs, hl, hv => by
    cases vs with
    | nil => simp at hl
    | cons v vs =>
      obtain ⟨φ1, a1, a2, a3, a4, a5, a6⟩ := h.own (tyAt ts) (hv 0 v u rfl rfl)
      obtain ⟨φ2, b1, b2, b3, b4, b5, b6, b7⟩ := SR.ownAll ts.tail us a1 vs (by simpa using hl) (fun j v' u' h1 h2 => (hv (j + 1) v' u' (by simpa using h1) (by simpa using h2)).mv a3)
      refine ⟨φ2, b1, by simp [St.ownAll, b2], fun j v' u' h1 h2 => ?_, a3.trans b4, fun g hg => a4 g (b5 g hg), fun i hi => ?_, b7.trans a6⟩
      cases j with
      | zero =>
        simp [St.ownAll] at h1 h2
        subst h1; subst h2
        exact a2.mv b4
      | succ j =>
        simp [St.ownAll] at h1 h2
        exact b3 j v' u' h1 h2
      · have hl1 : φ.l.length ≤ φ1.l.length := by
          rw [h.len, a1.len]
          unfold St.own
          split <;> simp [St.push]
        exact (b6 i (by omega)).trans (a5 i hi)
theorem SR.newBlock (h : SR D w φ env s) (cells : Array Value) (us : List AV) (ety : TypeId) (size : Nat) (hl : us.length ≤ cells.size) (h0 : size ≠ 0)
    (hv : ∀ (j : Nat) (v : Value) (u : AV), cells[j]? = some v → us[j]? = some u → v.oneCell' = true ∧ VR D w φ s.rows s.ctr v u) :
    SR D (w.alloc (.cells cells ety)) (φ.snoc (some w.heap.size)) env (s.push ⟨s.ctr, ety, size, us⟩) ∧
    Mv w φ s.rows s.ctr (w.alloc (.cells cells ety)) (φ.snoc (some w.heap.size)) (s.push ⟨s.ctr, ety, size, us⟩).rows (s.push ⟨s.ctr, ety, size, us⟩).ctr ∧
    (w.alloc (.cells cells ety)).heap[w.heap.size]? = some (.cells cells ety (0, 0)) := by
  have hext : Ext w (w.alloc (.cells cells ety)) := ⟨by simp, fun b hb => Below.heap_alloc w _ b hb⟩
  have hnew : (w.alloc (.cells cells ety)).heap[w.heap.size]? = some (.cells cells ety (0, 0)) := heap_alloc_new w _
  have hsz : (w.alloc (.cells cells ety)).heap.size = w.heap.size + 1 := by simp
  have m : Mv w φ s.rows s.ctr (w.alloc (.cells cells ety)) (φ.snoc (some w.heap.size)) (s.rows ++ [⟨s.ctr, ety, size, us⟩]) (s.ctr + 1) := by
    have hlen := h.len
    refine ⟨hext.sz, by omega, fun b hb hF => ⟨?_, hext.bl b hb⟩, fun t r' hr' hlt => ?_⟩
    · rintro (h1 | h1)
      · exact hF h1
      · cases h1; omega
    · rw [getElem?_snoc] at hr'
      split at hr'
      · rename_i ht
        refine ⟨r', hr', rfl, rfl, rfl, ?_, fun g cur hg hc => ⟨cur, ?_, rfl⟩⟩
        · simp only [Places.snoc]
          rw [List.getElem?_append_left (by omega)]
        · rw [hext.bl g (lt_of_heap hc)]; exact hc
      · split at hr'
        · cases hr'; exact absurd hlt (Nat.lt_irrefl _)
        · cases hr'
  obtain ⟨h1, h2⟩ := h.push (w' := w.alloc (.cells cells ety)) (r := ⟨s.ctr, ety, size, us⟩) (ob := some w.heap.size) rfl hext (fun g hg => by cases hg; omega)
    ⟨cells, hnew, hl, fun _ _ => rfl, fun j u hu => by
      have hj : j < cells.size := Nat.lt_of_lt_of_le (List.getElem?_eq_some_iff.1 hu).1 hl
      have hc : cells[j]? = some cells[j] := Array.getElem?_eq_getElem hj
      obtain ⟨a1, a2⟩ := hv j _ u hc hu
      exact ⟨_, hc, a1, .vr _ _ (a2.mv m)⟩⟩ (fun e => absurd e h0)
  exact ⟨h1, h2, hnew⟩
end
end Go.Am
