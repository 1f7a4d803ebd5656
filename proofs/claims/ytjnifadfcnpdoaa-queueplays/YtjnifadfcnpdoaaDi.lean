/- The document's Bump, walked. -/
import Derived.Test.YtjnifadfcnpdoaaDh
namespace Go.Proofs.Ytjnifadfcnpdoaa
open Go.RowKit Go.Maps
set_option linter.unusedVariables false
set_option linter.unusedSimpArgs false
set_option maxRecDepth 100000
/-- What holds of the row and the stamps, plainly. -/
structure Gd (n : Nat) (L : List Nat) (st : List Int) (mv : Nat) : Prop where
  nd : L.Nodup
  rg : ∀ v ∈ L, 1 ≤ v ∧ v ≤ n
  all : ∀ v, 1 ≤ v → v ≤ n → v ∈ L
  last : st.getD (L.getLastD 0) 0 = (n : Int) + mv
def BmpD (D : Da) (n : Nat) (L : List Nat) (st : List Int) (mv : Nat) (l : List Int) (W : World) (e : Ending) (w' : World) : Prop :=
  e = .returned (.int .i64 (Qp.bE n l)) ∧ ∃ (D' : Da) (mv' : Nat), D'.qb = D.qb ∧ D'.gs = D.gs ∧ Dq D' n (Qp.bL n l L) (Qp.bS n l L st) mv' w' ∧ Gd n (Qp.bL n l L) (Qp.bS n l L st) mv' ∧ mv' ≤ mv + 1 ∧ Fd D W w' ∧ ∀ x, D'.aR = some x → D.aR = some x ∨ W.heap.size ≤ x.block
theorem last_of {s : Int} {n : Nat} {l : List Int} {L : List Nat} {st : List Int} (h0 : 0 < (Qp.gone l L).length) (hs : st.length = n + 1) (hr : ∀ v ∈ L, 1 ≤ v ∧ v ≤ n) : (Qp.sts st s (Qp.gone l L)).getD ((Qp.bmp l L).getLastD 0) 0 = s := by
  have hne : Qp.gone l L ≠ [] := fun h => by rw [h] at h0; cases h0
  have e : (Qp.bmp l L).getLastD 0 = (Qp.gone l L).getLast hne := by
    unfold Qp.bmp
    rw [List.getLastD_eq_getLast?, List.getLast?_append, List.getLast?_eq_some_getLast hne]; rfl
  rw [e, Qp.sts_at _ _ _ _ (fun v hv => by have := hr v (List.mem_filter.1 hv).1; omega), if_pos (List.getLast_mem hne)]
theorem Gd.bmp {n : Nat} {l : List Int} {L : List Nat} {st : List Int} {mv : Nat} (G : Gd n L st mv) (hs : st.length = n + 1) (hok : Qp.okB n l = true) (hl : l ≠ []) : Gd n (Qp.bL n l L) (Qp.bS n l L st) (mv + 1) ∧ 0 < (Qp.gone l L).length := by
  have h0 : 0 < (Qp.gone l L).length := by
    obtain ⟨x, l', rfl⟩ := List.exists_cons_of_ne_nil hl
    have hx := Qp.okB_iff.1 hok x (.head _)
    refine List.length_pos_of_mem (a := x.toNat) (List.mem_filter.2 ⟨G.all _ (by omega) (by omega), ?_⟩)
    unfold Qp.inL
    rw [Int.toNat_of_nonneg (by omega)]
    exact decide_eq_true (.head _)
  refine ⟨⟨?_, fun v hv => G.rg v (Qp.bL_mem.1 hv), fun v a b => Qp.bL_mem.2 (G.all v a b), ?_⟩, h0⟩
  · unfold Qp.bL; rw [if_pos hok]; exact Qp.bmp_nodup G.nd
  · unfold Qp.bL Qp.bS
    rw [if_pos hok, if_pos hok, last_of h0 hs G.rg, G.last]
    omega
section
variable {D : Da} {n : Nat} {L : List Nat} {st : List Int} {mv : Nat} {W : World} {l : List Int} {a : Option Addr} {c : Nat}
set_option maxHeartbeats 4000000 in
theorem bump28_no (H : Dq D n L st mv W) (G : Gd n L st mv) (h : Iw W a l) (hl : l.length ≤ 1048576) (hok : Qp.okB n l = false) :
    Calls Try.prog 28 #[.pointer (some ⟨D.qb, 0, none⟩), .slice a l.length c] W fun e w' => BmpD D n L st mv l W e w' := by
  have HO := hid (fun (w : World) (hd : Drawn W w) => show BmpD D n L st mv l W (.returned (.int .i64 2)) w from ⟨by simp [Qp.bE, hok], D, mv, rfl, rfl, by simpa [Qp.bL, Qp.bS, hok] using H.below hd.below, by simpa [Qp.bL, Qp.bS, hok] using G, by omega, Fq.of_below hd.below, fun x hx => .inl hx⟩)
  have HC0 := hid (fun (w : World) (hd : Drawn W w) => show w.cell? ⟨D.qb, 0, none⟩ = some (.slice D.aR n D.cR) from row_cell (H.below hd.below).blk 0)
  have hsh : Hid (l.length = 0) ∨ ∃ b' off, a = some ⟨b', off, none⟩ := by
    rcases Nat.eq_zero_or_pos l.length with h' | h'
    · exact .inl h'
    · exact .inr (h.blk h')
  have H1 := hid (fun (b off : Nat) (e : a = some ⟨b, off, none⟩) (k : Nat) (hk : k < l.length) (w : World) (hd : Drawn W w) => (e ▸ h.all hd.below : Iw w (some ⟨b, off, none⟩) l).at hk)
  obtain ⟨t, ht⟩ : ∃ t, l.length = t := ⟨_, rfl⟩
  have HT := hid ht
  have HL := hid hl
  have HK := hid hok
  rw [ht] at hsh ⊢
  clear H G h hl hok ht
  go_enter Try.func28, Try.ntmps28
  go_wp2_with (fail)
  rcases hsh with Z | ⟨b, off, hb⟩
  case' inr => subst hb
  all_goals
    go_loopw [5] (fun i wr => ∃ k : Nat, k ≤ t ∧ i = .int .i64 (k : Nat) ∧ Hid (Qp.okB n (l.take k) = true) ∧ Hid (Drawn W wr)) (fun i _ => t - (intOf i).toNat)
    case atStart => exact ⟨0, Nat.zero_le _, rfl, hid rfl, hid (Drawn.refl _)⟩
    case round =>
      obtain ⟨k, hkt, rfl, HR, HW⟩ := hrel
      by_cases hlt : k < t
      · first
          | (exfalso; have := Z.out; omega)
          | (have hlt' : (k : Int) < t := by omega
             have hwk : wrap64 ((k : Int) + 1) = (k : Int) + 1 := by have := HL.out; have := HT.out; unfold wrap64; omega
             have hk1 : k < l.length := by rw [HT.out]; exact hlt
             have x1 := H1.out b off rfl k hk1 wr HW.out
             have c0 := HC0.out wr HW.out
             have HTK := hid (Qp.okB_take hk1 HR.out)
             generalize l.getD k 0 = x at *
             clear hk1
             by_cases g1 : x < 1
             · have HQ := hid (fun (q : Nat) => HO.out (wr.drewN q) (HW.out.drewN q))
               clear HTK H1 HO
               go_wp2_with (fail)
               go_quiet (fail)
               go_wp2_with (fail)
               go_ret
               exact HQ.out _
             · by_cases g2 : x > (n : Int)
               · have HQ := hid (fun (q : Nat) => HO.out (wr.drewN q) (HW.out.drewN q))
                 clear HTK H1 HO
                 go_wp2_with (fail)
                 go_quiet (fail)
                 go_wp2_with (fail)
                 go_ret
                 exact HQ.out _
               · have HN := hid (HTK.out ⟨by omega, by omega⟩)
                 have HQ := hid (fun (q : Nat) => HW.out.drewN q)
                 clear HTK
                 go_wp2_with (fail)
                 go_quiet (fail)
                 go_wp2_with (fail)
                 exact ⟨⟨k + 1, hlt, by first | rfl | (rw [hwk]; rfl), HN, hid (HQ.out _)⟩, by first | (simp only [intOf]; exact meas hlt) | (rw [hwk]; simp only [intOf]; exact meas hlt)⟩)
      · exfalso
        have hkt' : k = t := by omega
        have e := HR.out
        rw [hkt', ← HT.out, List.take_length, HK.out] at e
        cases e
theorem prep (H : Dq D n L st mv W) (G : Gd n L st mv) {m1 s : Int} {b off : Nat} (h : Iw W (some ⟨b, off, none⟩) l) (hap : b ≠ D.qb ∧ b ≠ D.gs) :
    W.cell? ⟨D.qb, 2, none⟩ = some (.int .i64 (mv : Int)) ∧ W.frozen? ⟨D.qb, 2, none⟩ = false ∧ BI D n L st m1 s l W 0 none 0 0 none 0 0 (W.setCell ⟨D.qb, 2, none⟩ (.int .i64 m1)) ∧ ∀ w, Fd D W w → Iw w (some ⟨b, off, none⟩) l := by
  obtain ⟨_, cS, hS⟩ := own_blk H.ss rfl
  refine ⟨row_cell H.blk 2, row_frozen H.blk 2, ⟨by rw [heap_set_row H.blk]; rfl, own_keep H.rs (own_type H.rs H.blk (by decide)).symm _, own_keep H.ss (own_type H.ss H.blk (by decide)).symm _, World.ownsRow_nil _ _ _ _, World.ownsRow_nil _ _ _ _, (fun g e => by cases e), Fq.set W _ (fun h => h.1 rfl), (fun x hx => ?_), H.slen, H.len, G.rg, lt_of_blk H.blk, lt_of_blk hS, H.mx⟩, fun w f => h.fq f (fun b' off' e => by cases e; exact hap)⟩
  obtain ⟨_, c3, h3⟩ := own_blk H.rs (g := x.block) (by rw [hx]; rfl)
  exact lt_of_blk h3
theorem BI.len {m1 s : Int} {w : World} {so go : Option Addr} {sc ms gc mg : Nat} (H : BI D n L st m1 s l W n so sc ms go gc mg w) : ms + mg = n ∧ mg = (Qp.gone l L).length := by
  have e : L.take n = L := by rw [← H.ll, List.take_length]
  have h1 := inn_len H.rso
  have h2 := inn_len H.rgo
  rw [e] at h1 h2
  have := (Qp.bmp_perm l L).length_eq
  unfold Qp.bmp at this
  rw [List.length_append, h1, h2, H.ll] at this
  exact ⟨this, h2.symm⟩
/-- The end: what goes comes behind what stays. -/
theorem BI.fin {m1 s : Int} {w : World} {so : Option Addr} {sc ms gc mg g : Nat} (H : BI D n L st m1 s l W n so sc ms (some ⟨g, 0, none⟩) gc mg w) (G : Gd n L st mv) (hok : Qp.okB n l = true) (hne : l ≠ []) (hm : m1 = ((mv + 1 : Nat) : Int)) (hs : st.getD (L.getLastD 0) 0 + 1 = s) :
    ∃ (o2 : Option Addr) (c2 : Nat) (B : World), (Builtin.append_ #[32, 32] 32 #[.slice so ms sc, .slice (some ⟨g, 0, none⟩) mg gc]).run Try.prog w = .ok (.slice o2 n c2) B
      ∧ B.cell? ⟨D.qb, 0, none⟩ = some (.slice D.aR n D.cR) ∧ B.frozen? ⟨D.qb, 0, none⟩ = false
      ∧ BmpD D n L st mv l W (.returned (.int .i64 0)) (B.setCell ⟨D.qb, 0, none⟩ (.slice o2 n c2)) := by
  have e : L.take n = L := by rw [← H.ll, List.take_length]
  obtain ⟨hl, _⟩ := H.len
  have h1 := H.rso
  have h2 := H.rgo
  have h3 := H.ss
  rw [e] at h1 h2 h3
  have hsz := H.fr.size
  have hmx := H.mx
  obtain ⟨o2, c2, B, r, wo, f, b, hg⟩ := appX (t := 32) Try.underlying32 info3 rfl (by decide) h1 hsz (a := g) (off := 0) (m := mg) (c := gc) (ys := inn (Qp.gone l L)) (inn_len h2 ▸ inn_length _) (fun j hj => by rw [Nat.zero_add]; exact (own_cell h2 hj).1) (inn_one' _) (by omega)
  rw [hl] at r wo
  have n1 : ∀ g, g < W.heap.size → (Value.slice so ms sc).ownBlock ≠ some g := fun g hl e => by have := (own_lo h1 e).1; omega
  have hb : B.heap[D.qb]? = some (.cells #[.slice D.aR n D.cR, .slice (some ⟨D.gs, 0, none⟩) (n + 1) D.cs, .int .i64 m1] 56 (0, 0)) := f.block _ _ H.blk (n1 _ H.lt1)
  have hss : B.ownsRow 0 2 1 (.slice (some ⟨D.gs, 0, none⟩) (n + 1) D.cs) (n + 1) (iss (Qp.sts st s (Qp.gone l L))) := own_fq h3 f (fun g e => by cases e; exact n1 _ H.lt2)
  have hw : inn (Qp.stay l L) ++ inn (Qp.gone l L) = inn (Qp.bmp l L) := by unfold Qp.bmp; simp [inn]
  rw [hw] at wo
  refine ⟨o2, c2, B, r, row_cell hb 0, row_frozen hb 0, by simp [Qp.bE, hok], { D with aR := o2, cR := c2 }, mv + 1, rfl, rfl, ⟨?_, ?_, ?_, hmx⟩, (G.bmp H.sl hok hne).1, Nat.le_refl _, ?_, fun x hx => .inr (own_new wo x hx)⟩
  · show (B.setCell ⟨D.qb, 0, none⟩ (.slice o2 n c2)).heap[D.qb]? = _
    rw [heap_set_row hb, hm]; rfl
  · have : Qp.bL n l L = Qp.bmp l L := by unfold Qp.bL; rw [if_pos hok]
    rw [this]
    exact own_base (own_keep wo (own_type wo hb (by decide)).symm _) (Nat.zero_le _)
  · have : Qp.bS n l L st = Qp.sts st s (Qp.gone l L) := by unfold Qp.bS; rw [if_pos hok, hs]
    rw [this]
    exact own_keep hss (own_type hss hb (by decide)).symm _
  · exact (Fq.lt ((H.fr.mono (fun g hg => hg.1)).trans (f.mono (fun g hg => n1 g hg.2)))).trans (Fq.set B _ (fun h => h.1 rfl))
set_option maxHeartbeats 8000000 in
theorem bump28_ok (H : Dq D n L st mv W) (G : Gd n L st mv) (hmv : mv ≤ 1048576) (h : Iw W a l) (hap : ∀ b off, a = some ⟨b, off, none⟩ → 0 < l.length → b ≠ D.qb ∧ b ≠ D.gs) (hl : l.length ≤ 1048576) (hok : Qp.okB n l = true) (hne : l ≠ []) :
    Calls Try.prog 28 #[.pointer (some ⟨D.qb, 0, none⟩), .slice a l.length c] W fun e w' => BmpD D n L st mv l W e w' := by
  have hpos : 0 < l.length := List.length_pos_iff.2 hne
  obtain ⟨b, off, hb⟩ := h.blk hpos
  subst hb
  have hapb := hap b off rfl hpos
  have hmx := H.mx
  have HD := hid (fun (w : World) (hd : Drawn W w) => H.below hd.below)
  have HI := hid (fun (w : World) (hd : Drawn W w) => h.all hd.below)
  have HC0 := hid (fun (w : World) (hd : Drawn W w) => show w.cell? ⟨D.qb, 0, none⟩ = some (.slice D.aR n D.cR) from row_cell (H.below hd.below).blk 0)
  have H1 := hid (fun (k : Nat) (hk : k < l.length) (w : World) (hd : Drawn W w) => (h.all hd.below).at hk)
  have HG := hid G
  have HAP := hid hapb
  have HMV := hid hmv
  have HNE := hid hne
  obtain ⟨t, ht⟩ : ∃ t, l.length = t := ⟨_, rfl⟩
  have HT := hid ht
  have HL := hid hl
  have HMX := hid hmx
  have HK := hid hok
  have ht0 : ((t : Int) == 0) = false := by
    have : (t : Int) ≠ 0 := by omega
    simpa using this
  have HDW := hid (fun (w w' : World) (l' : List Int) (L' : List Nat) (hd : Drawn W w) (hB : BmpD D n L st mv l w (.returned (.int .i64 0)) w') => show BmpD D n L st mv l W (.returned (.int .i64 0)) w' from by
    obtain ⟨e0, D', mv', e1, e2, q1, q2, q3, q4, q5⟩ := hB
    refine ⟨e0, D', mv', e1, e2, q1, q2, q3, (Fq.of_below hd.below).trans q4, fun x hx => (q5 x hx).imp id (fun h => Nat.le_trans hd.below.size h)⟩)
  rw [ht]
  clear H G h hap hl hok hne hpos hmx ht hapb hmv
  go_enter Try.func28, Try.ntmps28
  go_wp2_with (fail)
  go_loopw [5] (fun i wr => ∃ k : Nat, k ≤ t ∧ i = .int .i64 (k : Nat) ∧ Hid (Drawn W wr)) (fun i _ => t - (intOf i).toNat)
  case atStart => exact ⟨0, Nat.zero_le _, rfl, hid (Drawn.refl _)⟩
  case round =>
    obtain ⟨k, hkt, rfl, HW⟩ := hrel
    by_cases hlt : k < t
    · have hlt' : (k : Int) < t := by omega
      have hwk : wrap64 ((k : Int) + 1) = (k : Int) + 1 := by have := HL.out; have := HT.out; unfold wrap64; omega
      have hk1 : k < l.length := by rw [HT.out]; exact hlt
      have x1 := H1.out k hk1 wr HW.out
      have c0 := HC0.out wr HW.out
      have hx := Qp.okB_iff.1 HK.out (l.getD k 0) (by rw [List.getD_eq_getElem?_getD, List.getElem?_eq_getElem hk1]; exact List.getElem_mem _)
      have HQ := hid (fun (q : Nat) => HW.out.drewN q)
      generalize l.getD k 0 = x at *
      have g1 : ¬ x < 1 := by omega
      have g2 : ¬ x > (n : Int) := by omega
      clear hk1 hx
      go_wp2_with (fail)
      go_quiet (fail)
      go_wp2_with (fail)
      exact ⟨⟨k + 1, hlt, by first | rfl | (rw [hwk]; rfl), hid (HQ.out _)⟩, by first | (simp only [intOf]; exact meas hlt) | (rw [hwk]; simp only [intOf]; exact meas hlt)⟩
    · have hge : ¬ (k : Int) < t := by omega
      obtain ⟨m1, hm1⟩ : ∃ m1 : Int, (mv : Int) + 1 = m1 := ⟨_, rfl⟩
      obtain ⟨s, hs⟩ : ∃ s : Int, (n : Int) + m1 = s := ⟨_, rfl⟩
      obtain ⟨c2, f2, HB0, HIW⟩ := prep (m1 := m1) (s := s) (HD.out wr HW.out) HG.out (HI.out wr HW.out) HAP.out
      have HB0 := hid HB0
      have HIW := hid HIW
      have hw1 : wrap64 ((mv : Int) + 1) = m1 := by have := HMV.out; have := HMX.out; unfold wrap64; omega
      have HW2 := hid (show wrap64 ((n : Int) + m1) = s by have := HMV.out; have := HMX.out; unfold wrap64; omega)
      have HSV := hid (show st.getD (L.getLastD 0) 0 + 1 = s by have := HG.out.last; omega)
      have HM1 := hid (show m1 = ((mv + 1 : Nat) : Int) by omega)
      have HDW := hid (fun (w' : World) (hB : BmpD D n L st mv l wr (.returned (.int .i64 0)) w') => HDW.out wr w' l L HW.out hB)
      clear hm1 hs H1 HC0 HD HI HW
      go_wp2_with (fail)
      obtain ⟨V, hV⟩ : ∃ V, wr.setCell ⟨D.qb, 2, none⟩ (.int .i64 m1) = V := ⟨_, rfl⟩
      rw [hV] at HB0 ⊢
      clear hV hw1 c2 f2
      obtain ⟨wo, hwo⟩ : ∃ wo, wo = wr := ⟨wr, rfl⟩
      subst hwo
      go_loopw [8, 6, 7] (fun i sv gv wq => ∃ (k : Nat) (so : Option Addr) (sc ms : Nat) (go : Option Addr) (gc mg : Nat), k ≤ n ∧ i = .int .i64 (k : Nat) ∧ sv = .slice so ms sc ∧ gv = .slice go mg gc ∧ Hid (BI D n L st m1 s l wo k so sc ms go gc mg wq)) (fun i _ _ _ => n - (intOf i).toNat)
      case atStart => exact ⟨0, none, 0, 0, none, 0, 0, Nat.zero_le _, rfl, rfl, rfl, HB0⟩
      case round =>
        obtain ⟨k2, so, sc, ms, go, gc, mg, hk2, rfl, rfl, rfl, HI⟩ := hrel
        have x0 := row_cell HI.out.blk 0
        by_cases hlt2 : k2 < n
        · have hlt2' : (k2 : Int) < n := by omega
          have hwk2 : wrap64 ((k2 : Int) + 1) = (k2 : Int) + 1 := by have := HMX.out; unfold wrap64; omega
          have HWK := hid hwk2
          obtain ⟨gR, cR, cur, eR, _⟩ := own_some HI.out.rs (by omega)
          injection eR with eR _ _
          have xr : wr.cell? ⟨gR, k2, none⟩ = some (.int .i64 (L.getD k2 0 : Nat)) := by
            have h := HI.out.rs
            rw [eR] at h
            rw [(own_cell h hlt2).1, inn_at (by rw [HI.out.ll]; exact hlt2)]
          obtain ⟨v, hv⟩ : ∃ v, L.getD k2 0 = v := ⟨_, rfl⟩
          rw [hv] at xr
          have C36 := hid (has36 (c := c) (HIW.out wr HI.out.fr) HL.out (v : Int))
          rw [HT.out] at C36
          obtain ⟨y, hy⟩ : ∃ y, decide ((v : Int) ∈ l) = y := ⟨_, rfl⟩
          rw [hy] at C36
          have HAR := hid eR
          rw [eR] at x0
          cases y
          · obtain ⟨o2, c2, B, r, h2⟩ := HI.out.stay hlt2 hv hy rfl
            have HR := hid r
            have H2 := hid h2
            clear r h2 HI hv hy eR hwk2 HB0 HG HDW HIW hge
            go_wp2_with (first
              | (go_at_call 36; refine C36.out.mono ?_; rintro e w4 ⟨rfl, hw4⟩; rw [hw4]; clear hw4)
              | (at_builtin; refine wpList_append_run rfl (.tmp 82) (.tmp 84) 32 32 rfl rfl rfl HR.out ?_; clear HR))
            try rw [HWK.out]
            exact ⟨⟨k2 + 1, o2, c2, ms + 1, go, gc, mg, hlt2, rfl, rfl, rfl, H2⟩, by simp only [intOf]; exact meas hlt2⟩
          · obtain ⟨o2, c2, B, r, z0, z1, z2, ⟨y3, z3⟩, z4, h2⟩ := HI.out.gone hlt2 hv hy rfl
            have HR := hid r
            have H2 := hid h2
            have hw2 := HW2.out
            have hvn : (v : Int) < (n + 1 : Nat) := by
              have := (HI.out.rg v (by rw [← hv, List.getD_eq_getElem?_getD, List.getElem?_eq_getElem (by rw [HI.out.ll]; exact hlt2)]; exact List.getElem_mem _)).2
              omega
            obtain ⟨nn, hnn⟩ : ∃ nn, n + 1 = nn := ⟨_, rfl⟩
            rw [hnn] at z1 hvn
            clear r h2 HI hv hy eR hwk2 HB0 HG HDW HIW hge hnn
            go_wp2_with (first
              | (go_at_call 36; refine C36.out.mono ?_; rintro e w4 ⟨rfl, hw4⟩; rw [hw4]; clear hw4)
              | (at_builtin; refine wpList_append_run rfl (.tmp 62) (.tmp 64) 32 32 rfl rfl rfl HR.out ?_; clear HR))
            go_region
            all_goals
              go_wp2_with (fail)
              try rw [HWK.out]
              exact ⟨⟨k2 + 1, so, sc, ms, o2, c2, mg + 1, hlt2, rfl, rfl, rfl, hid (by first | exact (H2.out _).1 | exact (H2.out _).2)⟩, by simp only [intOf]; exact meas hlt2⟩
        · have hge2 : ¬ (k2 : Int) < n := by omega
          obtain rfl : k2 = n := by omega
          obtain ⟨hlen, hmg⟩ := HI.out.len
          have hg0 := (HG.out.bmp HI.out.sl HK.out HNE.out).2
          obtain ⟨g, cG, cur, eG, _⟩ := own_some HI.out.rgo (by omega)
          injection eG with eG _ _
          subst eG
          obtain ⟨o2, c2, B, r, z0, z1, hO⟩ := HI.out.fin HG.out HK.out HNE.out HM1.out HSV.out
          have HR := hid r
          have HO := hid (HDW.out _ hO)
          clear r hO HI HB0 HG HDW HIW hge hlen hmg hg0
          go_wp2_with (at_builtin; refine wpList_append_run rfl (.tmp 86) (.tmp 87) 32 32 rfl rfl rfl HR.out ?_; clear HR)
          go_ret
          exact HO.out
theorem bump28_nil (H : Dq D n L st mv W) (G : Gd n L st mv) :
    Calls Try.prog 28 #[.pointer (some ⟨D.qb, 0, none⟩), .slice a 0 c] W fun e w' => BmpD D n L st mv [] W e w' := by
  have HO := hid (show BmpD D n L st mv [] W (.returned (.int .i64 0)) W from ⟨rfl, D, mv, rfl, rfl, by rw [Qp.bL_nil, Qp.bS_nil]; exact H, by rw [Qp.bL_nil, Qp.bS_nil]; exact G, by omega, Fq.refl _ _, fun x hx => .inl hx⟩)
  clear H G
  go_enter Try.func28, Try.ntmps28
  go_wp2_with (fail)
  go_loopw [5] (fun i wr => i = .int .i64 0 ∧ wr = W) (fun _ _ => 0)
  case atStart => exact ⟨rfl, rfl⟩
  case round =>
    obtain ⟨rfl, hw⟩ := hrel
    rw [hw]
    clear hw
    go_wp2
    go_ret
    exact HO.out
theorem bump28 (H : Dq D n L st mv W) (G : Gd n L st mv) (hmv : mv ≤ 1048576) (h : Iw W a l) (hap : ∀ b off, a = some ⟨b, off, none⟩ → 0 < l.length → b ≠ D.qb ∧ b ≠ D.gs) (hl : l.length ≤ 1048576) :
    Calls Try.prog 28 #[.pointer (some ⟨D.qb, 0, none⟩), .slice a l.length c] W fun e w' => BmpD D n L st mv l W e w' := by
  cases hok : Qp.okB n l
  · exact bump28_no H G h hl hok
  · by_cases hne : l = []
    · subst hne
      exact bump28_nil H G
    · exact bump28_ok H G hmv h hap hl hok hne
end
end Go.Proofs.Ytjnifadfcnpdoaa
