/- Next: the last in the row that is not set. -/
import Derived.Test.YtjnifadfcnpdoaaOrd
namespace Go.Proofs.Ytjnifadfcnpdoaa.Qp
def isS (bs : List Bool) (v : Nat) : Bool := decide (v ≠ 0) && (decide (v ≤ bs.length) && bs.getD (v - 1) false)
def nxt (L : List Nat) (bs : List Bool) : Nat := (L.filter (fun v => !isS bs v)).getLastD 0
theorem nxt_at {L : List Nat} {bs : List Bool} {k : Nat} (hk : k ≤ L.length) (h1 : ∀ j, k ≤ j → j < L.length → isS bs (L.getD j 0) = true) (h2 : k = 0 ∨ isS bs (L.getD (k - 1) 0) = false) : nxt L bs = (0 :: L).getD k 0 := by
  have e1 : (L.drop k).filter (fun v => !isS bs v) = [] := by
    rw [List.filter_eq_nil_iff]
    intro x hx
    obtain ⟨i, hi, rfl⟩ := List.mem_iff_getElem.1 hx
    rw [List.getElem_drop]
    have := h1 (k + i) (by omega) (by simp at hi; omega)
    rw [List.getD_eq_getElem?_getD, List.getElem?_eq_getElem (by simp at hi; omega)] at this
    simpa using this
  unfold nxt
  rw [← List.take_append_drop k L, List.filter_append, e1, List.append_nil, List.take_append_drop]
  cases k with
  | zero => rfl
  | succ k =>
    have h2' : isS bs (L.getD k 0) = false := by rcases h2 with h | h; omega; exact h
    rw [take_snoc L hk, List.filter_append]
    simp only [List.filter_cons, h2', Bool.not_false, if_true, List.filter_nil]
    rw [List.getLastD_concat]
    rfl
theorem nxt_mem (L : List Nat) (bs : List Bool) : nxt L bs = 0 ∨ (nxt L bs ∈ L ∧ isS bs (nxt L bs) = false) := by
  rcases lastD_mem (L.filter (fun v => !isS bs v)) 0 with h | h
  · exact .inl h
  · right
    have hh := List.mem_filter.1 h
    exact ⟨hh.1, by have := hh.2; change (!isS bs (nxt L bs)) = true at this; cases hx : isS bs (nxt L bs); rfl; rw [hx] at this; cases this⟩
end Go.Proofs.Ytjnifadfcnpdoaa.Qp
namespace Go.Proofs.Ytjnifadfcnpdoaa
open Go.RowKit Go.Maps
set_option linter.unusedVariables false
set_option maxRecDepth 100000

/-- A row of bools that is only read. -/
def Bw (W : World) (a : Option Addr) (bs : List Bool) : Prop := bs = [] ∨ ∃ b off, a = some ⟨b, off, none⟩ ∧ ∀ j, j < bs.length → W.cell? ⟨b, off + j, none⟩ = some (.bool (bs.getD j false))
theorem Bw.below {W W' : World} {a : Option Addr} {bs : List Bool} {N : Nat} (h : Bw W a bs) (hb : Below N W W') (hn : ∀ b off, a = some ⟨b, off, none⟩ → b < N) : Bw W' a bs := by
  rcases h with h | ⟨b, off, rfl, h⟩
  · exact .inl h
  · exact .inr ⟨b, off, rfl, fun j hj => (hb.cell (p := ⟨b, off + j, none⟩) (hn b off rfl)).trans (h j hj)⟩
theorem Bw.all {W W' : World} {a : Option Addr} {bs : List Bool} (h : Bw W a bs) (hb : Below W.heap.size W W') : Bw W' a bs := by
  rcases h with h | ⟨b, off, rfl, h⟩
  · exact .inl h
  · exact .inr ⟨b, off, rfl, fun j hj => (hb.cell (p := ⟨b, off + j, none⟩) (cell_lt (h j hj))).trans (h j hj)⟩
theorem isSet33 {W : World} {sb c : Nat} {a : Option Addr} {bs : List Bool} (hc : W.cell? ⟨sb, 0, none⟩ = some (.slice a bs.length c)) (h : Bw W a bs) (v : Nat) (hv : v ≤ 1048576) :
    Calls Try.prog 33 #[.int .i64 (v : Int), .pointer (some ⟨sb, 0, none⟩)] W fun e w' => e = .returned (.bool (Qp.isS bs v)) ∧ w' = W := by
  by_cases h0 : v = 0
  · subst h0
    have HE := hid (show Qp.isS bs 0 = false from rfl)
    rw [HE.out]
    clear h
    go_enter Try.func33, Try.ntmps33
    go_wp2
    go_ret
    exact ⟨rfl, rfl⟩
  · have hv0 : ((v : Int) != 0) = true := by rw [bne_iff_ne]; omega
    obtain ⟨m, hm⟩ : ∃ m, bs.length = m := ⟨_, rfl⟩
    by_cases h1 : v ≤ bs.length
    · rcases h with h | ⟨b, off, rfl, h⟩
      · rw [h] at h1; simp at h1; omega
      · have x := h (v - 1) (by omega)
        have HE := hid (show Qp.isS bs v = bs.getD (v - 1) false by simp [Qp.isS, h0, h1])
        rw [HE.out]
        generalize bs.getD (v - 1) false = y at *
        rw [hm] at hc h1
        have h1' : (v : Int) ≤ m := by omega
        have hw : wrap64 ((v : Int) - 1) = ((v - 1 : Nat) : Int) := by unfold wrap64; omega
        have h2 : ((v - 1 : Nat) : Int) < m := by omega
        generalize v - 1 = u at *
        clear h h0 hm hv
        go_enter Try.func33, Try.ntmps33
        go_wp2
        go_ret
        exact ⟨rfl, rfl⟩
    · have HE := hid (show Qp.isS bs v = false by simp [Qp.isS, h1])
      rw [HE.out]
      rw [hm] at hc h1
      have h1' : ¬ (v : Int) ≤ m := by omega
      clear h h0 hm hv
      go_enter Try.func33, Try.ntmps33
      go_wp2
      go_ret
      exact ⟨rfl, rfl⟩
theorem Bw.setL {W : World} {A : Adr} {m : Nat} {ah bh : List Nat} {rk st : List Int} {lk : Nat} {a : Option Addr} {bs : List Bool} (h : Bw W a bs) (H : Qr A m ah bh rk st lk W) (v : Value) : Bw (W.setCell ⟨A.qb, 4, none⟩ v) a bs := by
  rcases h with h | ⟨b, off, rfl, h⟩
  · exact .inl h
  · by_cases hb : b = A.qb
    · subst hb
      rcases Nat.eq_zero_or_pos bs.length with h0 | h0
      · exact .inl (List.length_eq_zero_iff.1 h0)
      · have := h 0 h0
        rw [row_cell H.blk] at this
        match off, this with
        | 0, h | 1, h | 2, h | 3, h | 4, h => simp at h
        | k + 5, h => simp at h
    · exact .inr ⟨b, off, rfl, fun j hj => by rw [World.cell?, heap_other W v hb]; exact h j hj⟩
theorem getLastD_at (L : List Nat) : (0 :: L).getD L.length 0 = L.getLastD 0 := by
  cases L with
  | nil => rfl
  | cons x L => rw [List.getLastD_eq_getLast?, List.getLast?_eq_getElem?, List.getD_eq_getElem?_getD]; simp
theorem zrow_le {n : Nat} {L : List Nat} (h : ∀ v ∈ L, 1 ≤ v ∧ v ≤ n) (k : Nat) : (0 :: L).getD k 0 ≤ n := by
  rw [List.getD_eq_getElem?_getD]
  cases he : (0 :: L)[k]? with
  | none => exact Nat.zero_le _
  | some v =>
    rcases List.mem_cons.1 (List.mem_of_getElem? he) with e | e
    · rw [e]; exact Nat.zero_le _
    · exact (h v e).2
theorem zrow_at (L : List Nat) (k : Nat) (hk : k ≤ L.length) : k = 0 ∨ 0 < k ∧ (0 :: L).getD k 0 = L.getD (k - 1) 0 := by
  cases k with
  | zero => exact .inl rfl
  | succ k => exact .inr ⟨Nat.succ_pos _, rfl⟩
theorem idx_lt {n k : Nat} {L : List Nat} (hn : L.Nodup) (h : ∀ v ∈ L, 1 ≤ v ∧ v ≤ n) (hk : k ≤ L.length) (h1 : 0 < k) :
    (0 :: L).idxOf (intOf (.int .i64 (((0 :: L).getD (k - 1) 0 : Nat) : Int))).toNat < (0 :: L).idxOf (intOf (.int .i64 (((0 :: L).getD k 0 : Nat) : Int))).toNat := by
  have hnd : (0 :: L).Nodup := List.nodup_cons.2 ⟨fun h0 => by have := h 0 h0; omega, hn⟩
  have e : ∀ j, j ≤ L.length → (0 :: L).idxOf ((0 :: L).getD j 0) = j := fun j hj => by
    rw [List.getD_eq_getElem?_getD, List.getElem?_eq_getElem (by simp; omega)]
    exact hnd.idxOf_getElem _ (by simp; omega)
  simp only [intOf, Int.toNat_natCast]
  rw [e _ (by omega), e _ hk]
  omega
def NextOut (A : Adr) (n : Nat) (K : Int) (L : List Nat) (st : List Int) (bs : List Bool) (W : World) (e : Ending) (w' : World) : Prop :=
  e = .returned (.tuple #[.int .i64 ((Qp.nxt L bs : Nat) : Int), .bool (((Qp.nxt L bs : Nat) : Int) != 0)]) ∧ Qx A n K L st w' ∧ Fa A W w'
set_option maxHeartbeats 4000000 in
theorem next21 {A : Adr} {n : Nat} {K : Int} {L : List Nat} {st : List Int} {W : World} (H : Qx A n K L st W) {a : Option Addr} {c : Nat} {bs : List Bool} (h : Bw W a bs) :
    Calls Try.prog 21 #[.pointer (some ⟨A.qb, 0, none⟩), .slice a bs.length c] W fun e w' => NextOut A n K L st bs W e w' := by
  obtain ⟨ah, bh, rk, lk, h1, h2⟩ := H
  have hmx := h2.mx
  have hB1 := below_box W (.cells #[.slice a bs.length c] 33)
  have s0 : (W.alloc (.cells #[.slice a bs.length c] 33)).cell? ⟨W.heap.size, 0, none⟩ = some (.slice a bs.length c) := row_cell (heap_alloc_new W _) 0
  have q1 := h1.below hB1
  have hbw := h.all hB1
  have hF1 : Fa A W (W.alloc (.cells #[.slice a bs.length c] 33)) := Fq.of_below hB1
  have hout : ¬ A.own W.heap.size := fun hh => by have := h1.lt hh; omega
  generalize hX : W.alloc (.cells #[.slice a bs.length c] 33) = X at *
  have CZ := hid (size23 q1 (by omega) (by omega))
  rcases Nat.eq_zero_or_pos n with h0 | h0
  · subst h0
    have hL : L = [] := by
      cases L with
      | nil => rfl
      | cons x L => have := h2.rg x (.head _); omega
    subst hL
    have hz : ((0 + 1 : Nat) : Int) - 1 = 0 := by omega
    rw [hz] at CZ
    have HO := hid (show NextOut A 0 K [] st bs W (.returned (.tuple #[.int .i64 0, .bool false])) X from ⟨rfl, ⟨ah, bh, rk, lk, q1, h2⟩, hF1⟩)
    clear h1 h2 hmx hz hB1 hbw h s0 q1 hF1
    go_enter Try.func21, Try.ntmps21
    go_wp2_with (fail)
    go_at_call 23
    refine CZ.out.mono ?_
    rintro e w4 ⟨rfl, hw4⟩
    rw [hw4]
    clear hw4
    go_wp2
    go_ret2
    exact HO.out
  · have hz : ((n + 1 : Nat) : Int) - 1 = n := by omega
    rw [hz] at CZ
    have hn0 : ((n : Int) == 0) = false := by simp; omega
    have x4 := row_cell q1.blk 4
    have f4 := row_frozen q1.blk 4
    have C33 := hid (isSet33 s0 hbw lk (by have := h2.lk; omega))
    have HB := hid hbw
    have HS := hid s0
    obtain ⟨Y, hY⟩ : ∃ Y, X.setCell ⟨A.qb, 4, none⟩ (.int .i64 0) = Y := ⟨_, rfl⟩
    have HYF := hid (show Qr A (n + 1) ah bh rk st 0 Y ∧ Fa A W Y ∧ Bw Y a bs ∧ Y.cell? ⟨W.heap.size, 0, none⟩ = some (.slice a bs.length c) from by
      rw [← hY]
      obtain ⟨r1, r2⟩ := q1.setL 0
      refine ⟨r1, hF1.trans r2, hbw.setL q1 _, ?_⟩
      rw [World.cell?, heap_other X _ (fun e => hout (.inl e))]
      exact s0)
    have HXF := hid (show Qr A (n + 1) ah bh rk st lk X ∧ Fa A W X ∧ Bw X a bs ∧ X.cell? ⟨W.heap.size, 0, none⟩ = some (.slice a bs.length c) from ⟨q1, hF1, hbw, s0⟩)
    have HG := hid h2
    clear h1 h2 hmx hz hB1 hbw h s0 q1 hF1 HB HS
    obtain ⟨sb, hsb⟩ : ∃ sb, W.heap.size = sb := ⟨_, rfl⟩
    rw [hsb] at HYF HXF C33 hout
    go_enter Try.func21, Try.ntmps21
    go_wp2_with (fail)
    go_at_call 23
    refine CZ.out.mono ?_
    rintro e w4 ⟨rfl, hw4⟩
    rw [hw4]
    clear hw4
    go_wp2_with (fail)
    go_at_call 33
    refine C33.out.mono ?_
    rintro e w4 ⟨rfl, hw4⟩
    rw [hw4]
    clear hw4
    cases hs : Qp.isS bs lk
    case' true =>
      go_wp2_with (fail)
      have C34 := hid (last34 HYF.out.1 (by omega))
      have HZ : ∃ k0, Hid (Qr A (n + 1) ah bh rk st k0 Y ∧ Fa A W Y ∧ Bw Y a bs ∧ Y.cell? ⟨sb, 0, none⟩ = some (.slice a bs.length c)) ∧ Hid (k0 ≤ n ∧ (k0 = 0 ∨ Qp.isS bs k0 = false)) := ⟨0, HYF, hid ⟨Nat.zero_le _, .inl rfl⟩⟩
      clear HXF HYF CZ C33 hX hY hs x4 f4
    case' false =>
      go_wp2_with (fail)
      have C34 := hid (last34 HXF.out.1 (by omega))
      have HZ : ∃ k0, Hid (Qr A (n + 1) ah bh rk st k0 X ∧ Fa A W X ∧ Bw X a bs ∧ X.cell? ⟨sb, 0, none⟩ = some (.slice a bs.length c)) ∧ Hid (k0 ≤ n ∧ (k0 = 0 ∨ Qp.isS bs k0 = false)) := ⟨lk, HXF, hid ⟨HG.out.lk, .inr hs⟩⟩
      clear HXF HYF CZ C33 hY hX hs x4 f4
      clear Y
      generalize X = Y at *
    all_goals
      obtain ⟨k0, HYF, HL⟩ := HZ
      rw [HG.out.ch.last] at C34
      obtain ⟨vl, hvl⟩ : ∃ vl, L.getLastD 0 = vl := ⟨_, rfl⟩
      rw [hvl] at C34
      have HVL := hid hvl
      clear hvl
      have x4 := row_cell HYF.out.1.blk 4
      have x0 := row_cell HYF.out.1.blk 0
      have f4 := row_frozen HYF.out.1.blk 4
      go_at_call 34
      refine C34.out.mono ?_
      rintro e w4 ⟨rfl, hw4⟩
      rw [hw4]
      clear hw4 C34
      have C33 := hid (fun (v : Nat) (hv : v ≤ 1048576) => isSet33 HYF.out.2.2.2 HYF.out.2.2.1 v hv)
      have HA := hid (fun (k : Nat) (hk : k < L.length) => show Y.cell? ⟨A.ga, L.getD k 0, none⟩ = some (.int .i64 (((0 :: L).getD k 0 : Nat) : Int)) ∧ L.getD k 0 < n + 1 from by
        have hv : L.getD k 0 ∈ L := by rw [List.getD_eq_getElem?_getD, List.getElem?_eq_getElem hk]; exact List.getElem_mem hk
        have hr := HG.out.rg _ hv
        refine ⟨?_, by omega⟩
        rw [(own_cell HYF.out.1.ahs (k := L.getD k 0) (by omega)).1, inn_at (by have := HYF.out.1.len; omega), HG.out.ch.prev k hk])
      obtain ⟨m, hm⟩ : ∃ m, n + 1 = m := ⟨_, rfl⟩
      rw [hm] at x0
      go_wp2_with (fail)
      go_loopw [7] (fun i wr => ∃ k : Nat, k ≤ L.length ∧ i = .int .i64 (((0 :: L).getD k 0 : Nat) : Int) ∧ Hid (∀ j, k ≤ j → j < L.length → Qp.isS bs (L.getD j 0) = true) ∧ wr = Y) (fun i _ => (0 :: L).idxOf (intOf i).toNat)
      case atStart => exact ⟨L.length, Nat.le_refl _, by rw [getLastD_at, HVL.out], hid (fun j h1 h2 => by omega), rfl⟩
      case round =>
        obtain ⟨k, hk, rfl, HS, hwr⟩ := hrel
        rw [hwr]
        clear hwr
        have HV := hid (zrow_le (n := n) HG.out.rg k)
        have HNX := hid (fun h2 => Qp.nxt_at hk HS.out h2)
        have HKV := hid (zrow_at L k hk)
        have C9 := hid (C33.out ((0 :: L).getD k 0) (by have := HG.out.mx; have := HV.out; omega))
        have HOUT := hid (fun h2 => show NextOut A n K L st bs W (.returned (.tuple #[.int .i64 (((0 :: L).getD k 0 : Nat) : Int), .bool ((((0 :: L).getD k 0 : Nat) : Int) != 0)])) (Y.setCell ⟨A.qb, 4, none⟩ (.int .i64 (((0 :: L).getD k 0 : Nat) : Int))) from by
          obtain ⟨r1, r2⟩ := HYF.out.1.setL ((0 :: L).getD k 0)
          have g := HG.out
          refine ⟨by rw [HNX.out h2], ⟨ah, bh, rk, _, r1, g.mx, g.ch, g.nd, g.rg, g.rs, g.rb, g.sb, HV.out, g.kb⟩, HYF.out.2.1.trans r2⟩)
        by_cases hlk : (0 :: L).getD k 0 = k0
        · have HO := hid (HOUT.out (by
            rcases HKV.out with h | ⟨h, h'⟩
            · exact .inl h
            · right
              rw [← h', hlk]
              rcases HL.out.2 with e | e
              · rw [e]; rfl
              · exact e))
          generalize (0 :: L).getD k 0 = v at *
          have hvv : ((v : Int) != (k0 : Int)) = false := by rw [hlk]; simp
          clear HOUT C9 HNX HKV HV hlk
          go_wp2
          go_ret2
          exact HO.out
        · have hvv : ((((0 :: L).getD k 0 : Nat) : Int) != (k0 : Int)) = true := by rw [bne_iff_ne]; omega
          cases hb : Qp.isS bs ((0 :: L).getD k 0)
          · have HO := hid (HOUT.out (by
              rcases HKV.out with h | ⟨h, h'⟩
              · exact .inl h
              · right
                rw [← h']
                exact hb))
            rw [hb] at C9
            generalize (0 :: L).getD k 0 = v at *
            clear HOUT HNX HKV HV hb
            go_wp2_with (fail)
            go_at_call 33
            refine C9.out.mono ?_
            rintro e w4 ⟨rfl, hw4⟩
            rw [hw4]
            clear hw4
            go_wp2
            go_ret2
            exact HO.out
          · rw [hb] at C9
            have hk1 : 0 < k := by
              rcases HKV.out with h | ⟨h, h'⟩
              · rw [h] at hb; cases hb
              · exact h
            have hv := (HKV.out.resolve_left (by omega)).2
            obtain ⟨y1, y2⟩ := HA.out (k - 1) (by omega)
            have HS2 := hid (show ∀ j, k - 1 ≤ j → j < L.length → Qp.isS bs (L.getD j 0) = true from fun j h1 h2 => by
              by_cases e : j = k - 1
              · rw [e, ← hv]; exact hb
              · exact HS.out j (by omega) h2)
            rw [← hv] at y1 y2
            have HME := hid (idx_lt HG.out.nd HG.out.rg hk hk1)
            generalize (0 :: L).getD k 0 = v at *
            generalize hu : (0 :: L).getD (k - 1) 0 = u at *
            have hvm : (v : Int) < m := by omega
            clear HOUT HNX HKV HV hb hv y2
            go_wp2_with (fail)
            go_at_call 33
            refine C9.out.mono ?_
            rintro e w4 ⟨rfl, hw4⟩
            rw [hw4]
            clear hw4
            go_wp2_with (fail)
            go_roundw
            case rel => exact ⟨k - 1, by omega, by rw [hu], HS2, trivial⟩
            case measure => exact HME.out
end Go.Proofs.Ytjnifadfcnpdoaa
