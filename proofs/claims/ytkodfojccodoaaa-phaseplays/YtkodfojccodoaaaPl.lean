/- Both answer a call alike. -/
import Derived.Test.YtkodfojccodoaaaBc
namespace Go.Proofs.Ytkodfojccodoaaa
open Go.RowKit Go.Maps
set_option linter.unusedVariables false
set_option linter.unusedSimpArgs false
set_option maxRecDepth 100000
section
variable {A : Adr} {D : Da} {N n : Nat} {K : Int} {P : Ph.St} {W : World}
set_option maxHeartbeats 8000000 in
theorem plays14_0 (H : Bt A D N n K P P W) (hN : N ≤ W.heap.size) (hK : K + 3 ≤ 4611686018427387904) (hk0 : P.k ≤ 100000) {s : Opr} {a : Option Addr} {ca : Nat} (hs : OpOk W s a N) (hl : s.l.length ≤ 16777216) (hr : s.kind % 9 = 0) :
    Calls Try.prog 14 #[.pointer (some ⟨A.pb, 0, none⟩), .pointer (some ⟨D.qb, 0, none⟩), .agg #[.int .u8 s.kind, .int .i64 s.v, .slice a s.l.length ca]] W fun e w' => PlO A D N n (K + 2) (doP n P s) W e w' := by
  obtain ⟨hm1, hm2⟩ := mod9 hs.kind
  rw [hr] at hm1 hm2
  have hP : doP n P s = P := by unfold doP; rw [hr]; rfl
  have hml : s.l.length ≤ maxLen := hs.len
  have hus : Us P.s := by obtain ⟨_, _, _, _, _, _, _, _, _, _, h⟩ := H.p.px; exact h
  have bx := below_box W (.cells #[.int .u8 s.kind, .int .i64 s.v, .slice a s.l.length ca] 35)
  have hnew := heap_alloc_new W (.cells #[.int .u8 s.kind, .int .i64 s.v, .slice a s.l.length ca] 35)
  have hsz1 : (W.alloc (.cells #[.int .u8 s.kind, .int .i64 s.v, .slice a s.l.length ca] 35)).heap.size = W.heap.size + 1 := by simp only [World.alloc, Array.size_push]
  obtain ⟨V, hV⟩ : ∃ V, W.alloc (.cells #[.int .u8 s.kind, .int .i64 s.v, .slice a s.l.length ca] 35) = V := ⟨_, rfl⟩
  rw [hV] at bx hnew hsz1
  have hLV := hs.l.all bx
  obtain ⟨o, k, X, hrun, ow, bX⟩ := appL (c := ca) hLV hl
  have HR := hid hrun
  have bWX : Below W.heap.size W X := bx.trans (bX.mono bx.size)
  have hvx : V.heap.size ≤ X.heap.size := bX.size
  have hNX : N ≤ X.heap.size := by omega
  have hlo := own_new ow
  have hnw : ∀ g, Ow A D g → No o g := fun g hg a e h => by have := H.lt hg; have := hlo a e; omega
  have hnX : X.heap[W.heap.size]? = some (.cells #[.int .u8 s.kind, .int .i64 s.v, .slice a s.l.length ca] 35 (0, 0)) := (bX.block _ (by omega)).trans hnew
  have hLX := hLV.all bX
  have HB : Beg A D N n K P o X := ⟨H.below bWX, fun x e => by
      subst e
      obtain ⟨_, cur, h⟩ := own_blk ow rfl
      exact lt_of_blk h, fun x hx a e h => by
      obtain ⟨cs, h1⟩ := H.d.atT hx
      have := lt_of_blk h1
      have := hlo a e
      omega, fun x hx a e h => by
      obtain ⟨cs, h1⟩ := H.d.atB hx
      have := lt_of_blk h1
      have := hlo a e
      omega, hnw⟩
  have hbox : ¬ Ow A D W.heap.size := fun h => by have := H.lt h; omega
  have hboxo : No o W.heap.size := fun a e h => by have := hlo a e; omega
  have HX1 := hid (fun (w : World) (f : Fp A D X w) => show w.cell? ⟨W.heap.size, 1, none⟩ = some (.int .i64 s.v) ∧ w.cell? ⟨W.heap.size, 2, none⟩ = some (.slice a s.l.length ca) from
    ⟨row_cell (f.block _ _ hnX hbox) 1, row_cell (f.block _ _ hnX hbox) 2⟩)
  have HX2 := hid (fun (w : World) (f : Fq (fun g => ¬ Ow A D g ∧ No o g) X w) => show w.cell? ⟨W.heap.size, 2, none⟩ = some (.slice a s.l.length ca) from
    row_cell (f.block _ _ hnX ⟨hbox, hboxo⟩) 2)
  have hlx : ∀ b off, a = some ⟨b, off, none⟩ → 0 < s.l.length → ¬ Ow A D b ∧ No o b := fun b off e h0 => by
    have hb := hs.ap b off e h0
    exact ⟨fun h => by have := H.lo h; omega, fun a e h => by have := hlo a e; omega⟩
  have HL1 := hid (fun (w : World) (f : Fp A D X w) => show Lw w a s.l from hLX.fq f (fun b off e h0 => (hlx b off e h0).1))
  have HL2 := hid (fun (w : World) (f : Fq (fun g => ¬ Ow A D g ∧ No o g) X w) (b off : Nat) (e : a = some ⟨b, off, none⟩) (j : Nat) (hj : j < s.l.length) => (e ▸ hLX.fq f hlx : Lw w (some ⟨b, off, none⟩) s.l).at hj)
  have hLo : Lw X o s.l := lw_own ow (lw_bd hLV)
  have hao : ∀ b off, o = some ⟨b, off, none⟩ → 0 < s.l.length → ¬ A.own b := fun b off e _ h => hnw b (.inl h) _ e rfl
  have had : ∀ b off, a = some ⟨b, off, none⟩ → 0 < s.l.length → b ≠ D.qb ∧ some b ≠ D.v.ownBlock := fun b off e h0 => ⟨fun h => (hlx b off e h0).1 (.inr (.inl h)), fun h => (hlx b off e h0).1 (.inr (.inr h.symm))⟩
  have HRW := hid (fun (w : World) (m : MidF A D N n (K + 2) (P) o X w) => show Lp A D N n (K + 2) (P) o X V.heap.size k s.l.length s.l 0 w from
    ⟨m.1, s.l, own_fq ow m.2 (fun g e h => by
      obtain ⟨x, hx, rfl⟩ := own_at e
      exact hnw _ h x hx rfl), rfl, fun u _ => rfl⟩)
  have HOUT := hid (fun (w : World) (m : Mid A D N n (K + 2) (P) o X w) => show PlO A D N n (K + 2) (doP n P s) W (.returned (.bool true)) w from by
    rw [hP]
    exact m.out bWX (fun x e => by have := hlo x e; omega))
  have hso : Hid (s.l.length = 0) ∨ ∃ g, o = some ⟨g, 0, none⟩ := by
    rcases Nat.eq_zero_or_pos s.l.length with h0 | h0
    · exact .inl h0
    · obtain ⟨g, c', cur, e, _⟩ := own_some ow h0
      cases e
      exact .inr ⟨g, rfl⟩
  have hsa : Hid (s.l.length = 0) ∨ ∃ b off, a = some ⟨b, off, none⟩ := hs.l.shape
  have HT := hid (show s.l.length ≤ 16777216 from hl)
  have x1 := (HX1.out X (Fq.refl _ _)).1
  have x2 := (HX1.out X (Fq.refl _ _)).2
  have x0 : X.cell? ⟨W.heap.size, 0, none⟩ = some (.int .u8 s.kind) := row_cell hnX 0
  have v0 : V.cell? ⟨W.heap.size, 0, none⟩ = some (.int .u8 s.kind) := row_cell hnew 0
  have v1 : V.cell? ⟨W.heap.size, 1, none⟩ = some (.int .i64 s.v) := row_cell hnew 1
  have v2 : V.cell? ⟨W.heap.size, 2, none⟩ = some (.slice a s.l.length ca) := row_cell hnew 2
  have C1 := hid (HB.decide1 hK s.v)
  have C2 := hid (fun (w : World) (h : Hlf A D N n (K + 2) P P o X w) => h.decide2 s.v)
  clear hsz1 bx hnew hLV hrun ow bX bWX hvx hNX hlo hnw hnX hLX HB hbox hboxo hlx hLo hao had hP hml hus hs H hN hK hk0 hl hr
  generalize ht : s.l.length = t at *
  generalize hkd : s.kind = kd at *
  generalize hsv : s.v = v at *
  have HTE := hid ht
  clear ht hkd hsv
  go_enter Try.func14, Try.ntmps14
  go_wp2_with (first
    | (at_builtin; refine wpList_append_run rfl (.tmp 22) (.tmp 24) 33 33 rfl rfl rfl HR.out ?_))
  go_at_call 20
  refine C1.out.mono ?_
  rintro e w1 ⟨rfl, h1⟩
  have C3 := hid (C2.out _ h1)
  have ⟨y1, y2⟩ := HX1.out _ h1.fr
  clear C1 C2 h1 x0 x1 x2
  go_wp2_with (fail)
  go_at_call 28
  refine C3.out.mono ?_
  rintro e w2 ⟨rfl, m⟩
  have HRW := hid (HRW.out _ m)
  clear C3 m y1 y2
  have hbb : (Ph.dB n P v == Ph.dB n P v) = true := by simp
  have hee : (Ph.dE n v == Ph.dE n v) = true := by simp
  generalize Ph.dB n P v = zb at *
  generalize Ph.dE n v = ze at *
  go_wp2_with (fail)
  rcases hso with Zo | ⟨gl, hgl⟩
  case' inr => subst hgl
  all_goals
    go_loopw [21] (fun i wr => ∃ j : Nat, j ≤ t ∧ i = .int .i64 (j : Nat) ∧ Hid (Lp A D N n (K + 2) (P) _ X V.heap.size k t s.l j wr)) (fun i _ => t - (intOf i).toNat)
    case atStart => exact ⟨0, Nat.zero_le _, rfl, HRW⟩
    case round =>
      obtain ⟨j, hj, rfl, HI⟩ := hrel
      by_cases hlt : j < t
      · first
          | (exfalso; have := Zo.out; omega)
          | (rcases hsa with Za | ⟨b, off, hab⟩
             · exfalso; have := Za.out; omega
             · subst hab
               have hlt' : (j : Int) < t := by omega
               have hwk : wrap64 ((j : Int) + 1) = (j : Int) + 1 := by have := HT.out; unfold wrap64; omega
               have hx2 := HX2.out wr HI.out.md.fr
               have hL := (HL2.out wr HI.out.md.fr b off rfl j (by first | exact hlt | (rw [HTE.out]; exact hlt))).1
               obtain ⟨xs, r1, r2, r3⟩ := HI.out.row
               have y0 := (own_cell r1 hlt).1
               have y1 := (own_cell r1 hlt).2
               rw [lis_at (by omega), r3 j (Nat.le_refl _)] at y0
               have HS := hid (fun (q : Nat) => HI.out.set q)
               generalize s.l.getD j 0 = y at *
               have hyy : (y != y) = false := by simp
               clear HI HRW HL2 HX2 r1 r2 r3
               go_wp2_with (fail)
               go_quiet (fail)
               go_wp2_with (fail)
               rw [hwk]
               exact ⟨⟨j + 1, hlt, rfl, hid (HS.out nq)⟩, by simp only [intOf]; exact meas hlt⟩)
      · have hge : ¬ (j : Int) < t := by omega
        have HM := hid HI.out.md
        clear HI HRW
        go_wp2
        go_ret
        exact HOUT.out _ HM.out
set_option maxHeartbeats 8000000 in
theorem plays14_1 (H : Bt A D N n K P P W) (hN : N ≤ W.heap.size) (hK : K + 3 ≤ 4611686018427387904) (hk0 : P.k ≤ 100000) {s : Opr} {a : Option Addr} {ca : Nat} (hs : OpOk W s a N) (hl : s.l.length ≤ 16777216) (hr : s.kind % 9 = 1) :
    Calls Try.prog 14 #[.pointer (some ⟨A.pb, 0, none⟩), .pointer (some ⟨D.qb, 0, none⟩), .agg #[.int .u8 s.kind, .int .i64 s.v, .slice a s.l.length ca]] W fun e w' => PlO A D N n (K + 2) (doP n P s) W e w' := by
  obtain ⟨hm1, hm2⟩ := mod9 hs.kind
  rw [hr] at hm1 hm2
  have hP : doP n P s = Ph.sP n P s.l := by unfold doP; rw [hr]; rfl
  have hml : s.l.length ≤ maxLen := hs.len
  have hus : Us P.s := by obtain ⟨_, _, _, _, _, _, _, _, _, _, h⟩ := H.p.px; exact h
  have bx := below_box W (.cells #[.int .u8 s.kind, .int .i64 s.v, .slice a s.l.length ca] 35)
  have hnew := heap_alloc_new W (.cells #[.int .u8 s.kind, .int .i64 s.v, .slice a s.l.length ca] 35)
  have hsz1 : (W.alloc (.cells #[.int .u8 s.kind, .int .i64 s.v, .slice a s.l.length ca] 35)).heap.size = W.heap.size + 1 := by simp only [World.alloc, Array.size_push]
  obtain ⟨V, hV⟩ : ∃ V, W.alloc (.cells #[.int .u8 s.kind, .int .i64 s.v, .slice a s.l.length ca] 35) = V := ⟨_, rfl⟩
  rw [hV] at bx hnew hsz1
  have hLV := hs.l.all bx
  obtain ⟨o, k, X, hrun, ow, bX⟩ := appL (c := ca) hLV hl
  have HR := hid hrun
  have bWX : Below W.heap.size W X := bx.trans (bX.mono bx.size)
  have hvx : V.heap.size ≤ X.heap.size := bX.size
  have hNX : N ≤ X.heap.size := by omega
  have hlo := own_new ow
  have hnw : ∀ g, Ow A D g → No o g := fun g hg a e h => by have := H.lt hg; have := hlo a e; omega
  have hnX : X.heap[W.heap.size]? = some (.cells #[.int .u8 s.kind, .int .i64 s.v, .slice a s.l.length ca] 35 (0, 0)) := (bX.block _ (by omega)).trans hnew
  have hLX := hLV.all bX
  have HB : Beg A D N n K P o X := ⟨H.below bWX, fun x e => by
      subst e
      obtain ⟨_, cur, h⟩ := own_blk ow rfl
      exact lt_of_blk h, fun x hx a e h => by
      obtain ⟨cs, h1⟩ := H.d.atT hx
      have := lt_of_blk h1
      have := hlo a e
      omega, fun x hx a e h => by
      obtain ⟨cs, h1⟩ := H.d.atB hx
      have := lt_of_blk h1
      have := hlo a e
      omega, hnw⟩
  have hbox : ¬ Ow A D W.heap.size := fun h => by have := H.lt h; omega
  have hboxo : No o W.heap.size := fun a e h => by have := hlo a e; omega
  have HX1 := hid (fun (w : World) (f : Fp A D X w) => show w.cell? ⟨W.heap.size, 1, none⟩ = some (.int .i64 s.v) ∧ w.cell? ⟨W.heap.size, 2, none⟩ = some (.slice a s.l.length ca) from
    ⟨row_cell (f.block _ _ hnX hbox) 1, row_cell (f.block _ _ hnX hbox) 2⟩)
  have HX2 := hid (fun (w : World) (f : Fq (fun g => ¬ Ow A D g ∧ No o g) X w) => show w.cell? ⟨W.heap.size, 2, none⟩ = some (.slice a s.l.length ca) from
    row_cell (f.block _ _ hnX ⟨hbox, hboxo⟩) 2)
  have hlx : ∀ b off, a = some ⟨b, off, none⟩ → 0 < s.l.length → ¬ Ow A D b ∧ No o b := fun b off e h0 => by
    have hb := hs.ap b off e h0
    exact ⟨fun h => by have := H.lo h; omega, fun a e h => by have := hlo a e; omega⟩
  have HL1 := hid (fun (w : World) (f : Fp A D X w) => show Lw w a s.l from hLX.fq f (fun b off e h0 => (hlx b off e h0).1))
  have HL2 := hid (fun (w : World) (f : Fq (fun g => ¬ Ow A D g ∧ No o g) X w) (b off : Nat) (e : a = some ⟨b, off, none⟩) (j : Nat) (hj : j < s.l.length) => (e ▸ hLX.fq f hlx : Lw w (some ⟨b, off, none⟩) s.l).at hj)
  have hLo : Lw X o s.l := lw_own ow (lw_bd hLV)
  have hao : ∀ b off, o = some ⟨b, off, none⟩ → 0 < s.l.length → ¬ A.own b := fun b off e _ h => hnw b (.inl h) _ e rfl
  have had : ∀ b off, a = some ⟨b, off, none⟩ → 0 < s.l.length → b ≠ D.qb ∧ some b ≠ D.v.ownBlock := fun b off e h0 => ⟨fun h => (hlx b off e h0).1 (.inr (.inl h)), fun h => (hlx b off e h0).1 (.inr (.inr h.symm))⟩
  have HRW := hid (fun (w : World) (m : MidF A D N n (K + 2) (Ph.sP n P s.l) o X w) => show Lp A D N n (K + 2) (Ph.sP n P s.l) o X V.heap.size k s.l.length s.l 0 w from
    ⟨m.1, s.l, own_fq ow m.2 (fun g e h => by
      obtain ⟨x, hx, rfl⟩ := own_at e
      exact hnw _ h x hx rfl), rfl, fun u _ => rfl⟩)
  have HOUT := hid (fun (w : World) (m : Mid A D N n (K + 2) (Ph.sP n P s.l) o X w) => show PlO A D N n (K + 2) (doP n P s) W (.returned (.bool true)) w from by
    rw [hP]
    exact m.out bWX (fun x e => by have := hlo x e; omega))
  have hso : Hid (s.l.length = 0) ∨ ∃ g, o = some ⟨g, 0, none⟩ := by
    rcases Nat.eq_zero_or_pos s.l.length with h0 | h0
    · exact .inl h0
    · obtain ⟨g, c', cur, e, _⟩ := own_some ow h0
      cases e
      exact .inr ⟨g, rfl⟩
  have hsa : Hid (s.l.length = 0) ∨ ∃ b off, a = some ⟨b, off, none⟩ := hs.l.shape
  have HT := hid (show s.l.length ≤ 16777216 from hl)
  have x1 := (HX1.out X (Fq.refl _ _)).1
  have x2 := (HX1.out X (Fq.refl _ _)).2
  have x0 : X.cell? ⟨W.heap.size, 0, none⟩ = some (.int .u8 s.kind) := row_cell hnX 0
  have v0 : V.cell? ⟨W.heap.size, 0, none⟩ = some (.int .u8 s.kind) := row_cell hnew 0
  have v1 : V.cell? ⟨W.heap.size, 1, none⟩ = some (.int .i64 s.v) := row_cell hnew 1
  have v2 : V.cell? ⟨W.heap.size, 2, none⟩ = some (.slice a s.l.length ca) := row_cell hnew 2
  have C1 := hid (fun (q : Nat) => ((HB.below (Drawn.below ⟨q, rfl⟩)).save1 (c := k) (X := X.drewN q) (Nat.le_trans hNX (Drawn.below (w := X) (w' := X.drewN q) ⟨q, rfl⟩).size) hK (hLo.all (Drawn.below ⟨q, rfl⟩)) hao hml))
  have HFR := hid (fun (q : Nat) (w : World) (h : Hlf A D N n (K + 2) (Ph.sP n P s.l) P o (X.drewN q) w) => h.from (X := X) (Drawn.below ⟨q, rfl⟩))
  have C2 := hid (fun (w : World) (h : Hlf A D N n (K + 2) (Ph.sP n P s.l) P o X w) => h.save2 (c := ca) (HL1.out w h.fr) had hml)
  clear hsz1 bx hnew hLV hrun ow bX bWX hvx hNX hlo hnw hnX hLX HB hbox hboxo hlx hLo hao had hP hml hus hs H hN hK hk0 hl hr
  generalize ht : s.l.length = t at *
  generalize hkd : s.kind = kd at *
  generalize hsv : s.v = v at *
  have HTE := hid ht
  clear ht hkd hsv
  go_enter Try.func14, Try.ntmps14
  go_wp2_with (first
    | (at_builtin; refine wpList_append_run rfl (.tmp 22) (.tmp 24) 33 33 rfl rfl rfl HR.out ?_))
  have hee : (Ph.mE n s.l == Ph.mE n s.l) = true := by simp
  generalize Ph.mE n s.l = ze at *
  go_region_law (first
    | (go_simp; go_at_call 19; refine (C1.out 1).mono ?_; rintro e w1 ⟨rfl, h1⟩; have h1 := HFR.out _ _ h1; have ⟨y1, y2⟩ := HX1.out _ h1.fr; have C3 := hid (C2.out _ h1); clear h1)
    | (go_simp; go_at_call 29; refine C3.out.mono ?_; rintro e w2 ⟨rfl, m⟩; have HRW := hid (HRW.out _ m); clear C3 m))
  all_goals
    go_wp2_with (fail)
    rcases hso with Zo | ⟨gl, hgl⟩
    case' inr => subst hgl
    all_goals
      go_loopw [21] (fun i wr => ∃ j : Nat, j ≤ t ∧ i = .int .i64 (j : Nat) ∧ Hid (Lp A D N n (K + 2) (Ph.sP n P s.l) _ X V.heap.size k t s.l j wr)) (fun i _ => t - (intOf i).toNat)
      case atStart => exact ⟨0, Nat.zero_le _, rfl, HRW⟩
      case round =>
        obtain ⟨j, hj, rfl, HI⟩ := hrel
        by_cases hlt : j < t
        · first
            | (exfalso; have := Zo.out; omega)
            | (rcases hsa with Za | ⟨b, off, hab⟩
               · exfalso; have := Za.out; omega
               · subst hab
                 have hlt' : (j : Int) < t := by omega
                 have hwk : wrap64 ((j : Int) + 1) = (j : Int) + 1 := by have := HT.out; unfold wrap64; omega
                 have hx2 := HX2.out wr HI.out.md.fr
                 have hL := (HL2.out wr HI.out.md.fr b off rfl j (by first | exact hlt | (rw [HTE.out]; exact hlt))).1
                 obtain ⟨xs, r1, r2, r3⟩ := HI.out.row
                 have y0 := (own_cell r1 hlt).1
                 have y1 := (own_cell r1 hlt).2
                 rw [lis_at (by omega), r3 j (Nat.le_refl _)] at y0
                 have HS := hid (fun (q : Nat) => HI.out.set q)
                 generalize s.l.getD j 0 = y at *
                 have hyy : (y != y) = false := by simp
                 clear HI HRW HL2 HX2 r1 r2 r3
                 go_wp2_with (fail)
                 go_quiet (fail)
                 go_wp2_with (fail)
                 rw [hwk]
                 exact ⟨⟨j + 1, hlt, rfl, hid (HS.out nq)⟩, by simp only [intOf]; exact meas hlt⟩)
        · have hge : ¬ (j : Int) < t := by omega
          have HM := hid HI.out.md
          clear HI HRW
          go_wp2
          go_ret
          exact HOUT.out _ HM.out
set_option maxHeartbeats 8000000 in
theorem plays14_2 (H : Bt A D N n K P P W) (hN : N ≤ W.heap.size) (hK : K + 3 ≤ 4611686018427387904) (hk0 : P.k ≤ 100000) {s : Opr} {a : Option Addr} {ca : Nat} (hs : OpOk W s a N) (hl : s.l.length ≤ 16777216) (hr : s.kind % 9 = 2) :
    Calls Try.prog 14 #[.pointer (some ⟨A.pb, 0, none⟩), .pointer (some ⟨D.qb, 0, none⟩), .agg #[.int .u8 s.kind, .int .i64 s.v, .slice a s.l.length ca]] W fun e w' => PlO A D N n (K + 2) (doP n P s) W e w' := by
  obtain ⟨hm1, hm2⟩ := mod9 hs.kind
  rw [hr] at hm1 hm2
  have hP : doP n P s = Ph.sP n P s.l := by unfold doP; rw [hr]; rfl
  have hml : s.l.length ≤ maxLen := hs.len
  have hus : Us P.s := by obtain ⟨_, _, _, _, _, _, _, _, _, _, h⟩ := H.p.px; exact h
  have bx := below_box W (.cells #[.int .u8 s.kind, .int .i64 s.v, .slice a s.l.length ca] 35)
  have hnew := heap_alloc_new W (.cells #[.int .u8 s.kind, .int .i64 s.v, .slice a s.l.length ca] 35)
  have hsz1 : (W.alloc (.cells #[.int .u8 s.kind, .int .i64 s.v, .slice a s.l.length ca] 35)).heap.size = W.heap.size + 1 := by simp only [World.alloc, Array.size_push]
  obtain ⟨V, hV⟩ : ∃ V, W.alloc (.cells #[.int .u8 s.kind, .int .i64 s.v, .slice a s.l.length ca] 35) = V := ⟨_, rfl⟩
  rw [hV] at bx hnew hsz1
  have hLV := hs.l.all bx
  obtain ⟨o, k, X, hrun, ow, bX⟩ := appL (c := ca) hLV hl
  have HR := hid hrun
  have bWX : Below W.heap.size W X := bx.trans (bX.mono bx.size)
  have hvx : V.heap.size ≤ X.heap.size := bX.size
  have hNX : N ≤ X.heap.size := by omega
  have hlo := own_new ow
  have hnw : ∀ g, Ow A D g → No o g := fun g hg a e h => by have := H.lt hg; have := hlo a e; omega
  have hnX : X.heap[W.heap.size]? = some (.cells #[.int .u8 s.kind, .int .i64 s.v, .slice a s.l.length ca] 35 (0, 0)) := (bX.block _ (by omega)).trans hnew
  have hLX := hLV.all bX
  have HB : Beg A D N n K P o X := ⟨H.below bWX, fun x e => by
      subst e
      obtain ⟨_, cur, h⟩ := own_blk ow rfl
      exact lt_of_blk h, fun x hx a e h => by
      obtain ⟨cs, h1⟩ := H.d.atT hx
      have := lt_of_blk h1
      have := hlo a e
      omega, fun x hx a e h => by
      obtain ⟨cs, h1⟩ := H.d.atB hx
      have := lt_of_blk h1
      have := hlo a e
      omega, hnw⟩
  have hbox : ¬ Ow A D W.heap.size := fun h => by have := H.lt h; omega
  have hboxo : No o W.heap.size := fun a e h => by have := hlo a e; omega
  have HX1 := hid (fun (w : World) (f : Fp A D X w) => show w.cell? ⟨W.heap.size, 1, none⟩ = some (.int .i64 s.v) ∧ w.cell? ⟨W.heap.size, 2, none⟩ = some (.slice a s.l.length ca) from
    ⟨row_cell (f.block _ _ hnX hbox) 1, row_cell (f.block _ _ hnX hbox) 2⟩)
  have HX2 := hid (fun (w : World) (f : Fq (fun g => ¬ Ow A D g ∧ No o g) X w) => show w.cell? ⟨W.heap.size, 2, none⟩ = some (.slice a s.l.length ca) from
    row_cell (f.block _ _ hnX ⟨hbox, hboxo⟩) 2)
  have hlx : ∀ b off, a = some ⟨b, off, none⟩ → 0 < s.l.length → ¬ Ow A D b ∧ No o b := fun b off e h0 => by
    have hb := hs.ap b off e h0
    exact ⟨fun h => by have := H.lo h; omega, fun a e h => by have := hlo a e; omega⟩
  have HL1 := hid (fun (w : World) (f : Fp A D X w) => show Lw w a s.l from hLX.fq f (fun b off e h0 => (hlx b off e h0).1))
  have HL2 := hid (fun (w : World) (f : Fq (fun g => ¬ Ow A D g ∧ No o g) X w) (b off : Nat) (e : a = some ⟨b, off, none⟩) (j : Nat) (hj : j < s.l.length) => (e ▸ hLX.fq f hlx : Lw w (some ⟨b, off, none⟩) s.l).at hj)
  have hLo : Lw X o s.l := lw_own ow (lw_bd hLV)
  have hao : ∀ b off, o = some ⟨b, off, none⟩ → 0 < s.l.length → ¬ A.own b := fun b off e _ h => hnw b (.inl h) _ e rfl
  have had : ∀ b off, a = some ⟨b, off, none⟩ → 0 < s.l.length → b ≠ D.qb ∧ some b ≠ D.v.ownBlock := fun b off e h0 => ⟨fun h => (hlx b off e h0).1 (.inr (.inl h)), fun h => (hlx b off e h0).1 (.inr (.inr h.symm))⟩
  have HRW := hid (fun (w : World) (m : MidF A D N n (K + 2) (Ph.sP n P s.l) o X w) => show Lp A D N n (K + 2) (Ph.sP n P s.l) o X V.heap.size k s.l.length s.l 0 w from
    ⟨m.1, s.l, own_fq ow m.2 (fun g e h => by
      obtain ⟨x, hx, rfl⟩ := own_at e
      exact hnw _ h x hx rfl), rfl, fun u _ => rfl⟩)
  have HOUT := hid (fun (w : World) (m : Mid A D N n (K + 2) (Ph.sP n P s.l) o X w) => show PlO A D N n (K + 2) (doP n P s) W (.returned (.bool true)) w from by
    rw [hP]
    exact m.out bWX (fun x e => by have := hlo x e; omega))
  have hso : Hid (s.l.length = 0) ∨ ∃ g, o = some ⟨g, 0, none⟩ := by
    rcases Nat.eq_zero_or_pos s.l.length with h0 | h0
    · exact .inl h0
    · obtain ⟨g, c', cur, e, _⟩ := own_some ow h0
      cases e
      exact .inr ⟨g, rfl⟩
  have hsa : Hid (s.l.length = 0) ∨ ∃ b off, a = some ⟨b, off, none⟩ := hs.l.shape
  have HT := hid (show s.l.length ≤ 16777216 from hl)
  have x1 := (HX1.out X (Fq.refl _ _)).1
  have x2 := (HX1.out X (Fq.refl _ _)).2
  have x0 : X.cell? ⟨W.heap.size, 0, none⟩ = some (.int .u8 s.kind) := row_cell hnX 0
  have v0 : V.cell? ⟨W.heap.size, 0, none⟩ = some (.int .u8 s.kind) := row_cell hnew 0
  have v1 : V.cell? ⟨W.heap.size, 1, none⟩ = some (.int .i64 s.v) := row_cell hnew 1
  have v2 : V.cell? ⟨W.heap.size, 2, none⟩ = some (.slice a s.l.length ca) := row_cell hnew 2
  have C1 := hid (fun (q : Nat) => ((HB.below (Drawn.below ⟨q, rfl⟩)).save1 (c := k) (X := X.drewN q) (Nat.le_trans hNX (Drawn.below (w := X) (w' := X.drewN q) ⟨q, rfl⟩).size) hK (hLo.all (Drawn.below ⟨q, rfl⟩)) hao hml))
  have HFR := hid (fun (q : Nat) (w : World) (h : Hlf A D N n (K + 2) (Ph.sP n P s.l) P o (X.drewN q) w) => h.from (X := X) (Drawn.below ⟨q, rfl⟩))
  have C2 := hid (fun (w : World) (h : Hlf A D N n (K + 2) (Ph.sP n P s.l) P o X w) => h.save2 (c := ca) (HL1.out w h.fr) had hml)
  clear hsz1 bx hnew hLV hrun ow bX bWX hvx hNX hlo hnw hnX hLX HB hbox hboxo hlx hLo hao had hP hml hus hs H hN hK hk0 hl hr
  generalize ht : s.l.length = t at *
  generalize hkd : s.kind = kd at *
  generalize hsv : s.v = v at *
  have HTE := hid ht
  clear ht hkd hsv
  go_enter Try.func14, Try.ntmps14
  go_wp2_with (first
    | (at_builtin; refine wpList_append_run rfl (.tmp 22) (.tmp 24) 33 33 rfl rfl rfl HR.out ?_))
  have hee : (Ph.mE n s.l == Ph.mE n s.l) = true := by simp
  generalize Ph.mE n s.l = ze at *
  go_region_law (first
    | (go_simp; go_at_call 19; refine (C1.out 1).mono ?_; rintro e w1 ⟨rfl, h1⟩; have h1 := HFR.out _ _ h1; have ⟨y1, y2⟩ := HX1.out _ h1.fr; have C3 := hid (C2.out _ h1); clear h1)
    | (go_simp; go_at_call 29; refine C3.out.mono ?_; rintro e w2 ⟨rfl, m⟩; have HRW := hid (HRW.out _ m); clear C3 m))
  all_goals
    go_wp2_with (fail)
    rcases hso with Zo | ⟨gl, hgl⟩
    case' inr => subst hgl
    all_goals
      go_loopw [21] (fun i wr => ∃ j : Nat, j ≤ t ∧ i = .int .i64 (j : Nat) ∧ Hid (Lp A D N n (K + 2) (Ph.sP n P s.l) _ X V.heap.size k t s.l j wr)) (fun i _ => t - (intOf i).toNat)
      case atStart => exact ⟨0, Nat.zero_le _, rfl, HRW⟩
      case round =>
        obtain ⟨j, hj, rfl, HI⟩ := hrel
        by_cases hlt : j < t
        · first
            | (exfalso; have := Zo.out; omega)
            | (rcases hsa with Za | ⟨b, off, hab⟩
               · exfalso; have := Za.out; omega
               · subst hab
                 have hlt' : (j : Int) < t := by omega
                 have hwk : wrap64 ((j : Int) + 1) = (j : Int) + 1 := by have := HT.out; unfold wrap64; omega
                 have hx2 := HX2.out wr HI.out.md.fr
                 have hL := (HL2.out wr HI.out.md.fr b off rfl j (by first | exact hlt | (rw [HTE.out]; exact hlt))).1
                 obtain ⟨xs, r1, r2, r3⟩ := HI.out.row
                 have y0 := (own_cell r1 hlt).1
                 have y1 := (own_cell r1 hlt).2
                 rw [lis_at (by omega), r3 j (Nat.le_refl _)] at y0
                 have HS := hid (fun (q : Nat) => HI.out.set q)
                 generalize s.l.getD j 0 = y at *
                 have hyy : (y != y) = false := by simp
                 clear HI HRW HL2 HX2 r1 r2 r3
                 go_wp2_with (fail)
                 go_quiet (fail)
                 go_wp2_with (fail)
                 rw [hwk]
                 exact ⟨⟨j + 1, hlt, rfl, hid (HS.out nq)⟩, by simp only [intOf]; exact meas hlt⟩)
        · have hge : ¬ (j : Int) < t := by omega
          have HM := hid HI.out.md
          clear HI HRW
          go_wp2
          go_ret
          exact HOUT.out _ HM.out
set_option maxHeartbeats 8000000 in
theorem plays14_3 (H : Bt A D N n K P P W) (hN : N ≤ W.heap.size) (hK : K + 3 ≤ 4611686018427387904) (hk0 : P.k ≤ 100000) {s : Opr} {a : Option Addr} {ca : Nat} (hs : OpOk W s a N) (hl : s.l.length ≤ 16777216) (hr : s.kind % 9 = 3) :
    Calls Try.prog 14 #[.pointer (some ⟨A.pb, 0, none⟩), .pointer (some ⟨D.qb, 0, none⟩), .agg #[.int .u8 s.kind, .int .i64 s.v, .slice a s.l.length ca]] W fun e w' => PlO A D N n (K + 2) (doP n P s) W e w' := by
  obtain ⟨hm1, hm2⟩ := mod9 hs.kind
  rw [hr] at hm1 hm2
  have hP : doP n P s = Ph.rP n P s.l := by unfold doP; rw [hr]; rfl
  have hml : s.l.length ≤ maxLen := hs.len
  have hus : Us P.s := by obtain ⟨_, _, _, _, _, _, _, _, _, _, h⟩ := H.p.px; exact h
  have bx := below_box W (.cells #[.int .u8 s.kind, .int .i64 s.v, .slice a s.l.length ca] 35)
  have hnew := heap_alloc_new W (.cells #[.int .u8 s.kind, .int .i64 s.v, .slice a s.l.length ca] 35)
  have hsz1 : (W.alloc (.cells #[.int .u8 s.kind, .int .i64 s.v, .slice a s.l.length ca] 35)).heap.size = W.heap.size + 1 := by simp only [World.alloc, Array.size_push]
  obtain ⟨V, hV⟩ : ∃ V, W.alloc (.cells #[.int .u8 s.kind, .int .i64 s.v, .slice a s.l.length ca] 35) = V := ⟨_, rfl⟩
  rw [hV] at bx hnew hsz1
  have hLV := hs.l.all bx
  obtain ⟨o, k, X, hrun, ow, bX⟩ := appL (c := ca) hLV hl
  have HR := hid hrun
  have bWX : Below W.heap.size W X := bx.trans (bX.mono bx.size)
  have hvx : V.heap.size ≤ X.heap.size := bX.size
  have hNX : N ≤ X.heap.size := by omega
  have hlo := own_new ow
  have hnw : ∀ g, Ow A D g → No o g := fun g hg a e h => by have := H.lt hg; have := hlo a e; omega
  have hnX : X.heap[W.heap.size]? = some (.cells #[.int .u8 s.kind, .int .i64 s.v, .slice a s.l.length ca] 35 (0, 0)) := (bX.block _ (by omega)).trans hnew
  have hLX := hLV.all bX
  have HB : Beg A D N n K P o X := ⟨H.below bWX, fun x e => by
      subst e
      obtain ⟨_, cur, h⟩ := own_blk ow rfl
      exact lt_of_blk h, fun x hx a e h => by
      obtain ⟨cs, h1⟩ := H.d.atT hx
      have := lt_of_blk h1
      have := hlo a e
      omega, fun x hx a e h => by
      obtain ⟨cs, h1⟩ := H.d.atB hx
      have := lt_of_blk h1
      have := hlo a e
      omega, hnw⟩
  have hbox : ¬ Ow A D W.heap.size := fun h => by have := H.lt h; omega
  have hboxo : No o W.heap.size := fun a e h => by have := hlo a e; omega
  have HX1 := hid (fun (w : World) (f : Fp A D X w) => show w.cell? ⟨W.heap.size, 1, none⟩ = some (.int .i64 s.v) ∧ w.cell? ⟨W.heap.size, 2, none⟩ = some (.slice a s.l.length ca) from
    ⟨row_cell (f.block _ _ hnX hbox) 1, row_cell (f.block _ _ hnX hbox) 2⟩)
  have HX2 := hid (fun (w : World) (f : Fq (fun g => ¬ Ow A D g ∧ No o g) X w) => show w.cell? ⟨W.heap.size, 2, none⟩ = some (.slice a s.l.length ca) from
    row_cell (f.block _ _ hnX ⟨hbox, hboxo⟩) 2)
  have hlx : ∀ b off, a = some ⟨b, off, none⟩ → 0 < s.l.length → ¬ Ow A D b ∧ No o b := fun b off e h0 => by
    have hb := hs.ap b off e h0
    exact ⟨fun h => by have := H.lo h; omega, fun a e h => by have := hlo a e; omega⟩
  have HL1 := hid (fun (w : World) (f : Fp A D X w) => show Lw w a s.l from hLX.fq f (fun b off e h0 => (hlx b off e h0).1))
  have HL2 := hid (fun (w : World) (f : Fq (fun g => ¬ Ow A D g ∧ No o g) X w) (b off : Nat) (e : a = some ⟨b, off, none⟩) (j : Nat) (hj : j < s.l.length) => (e ▸ hLX.fq f hlx : Lw w (some ⟨b, off, none⟩) s.l).at hj)
  have hLo : Lw X o s.l := lw_own ow (lw_bd hLV)
  have hao : ∀ b off, o = some ⟨b, off, none⟩ → 0 < s.l.length → ¬ A.own b := fun b off e _ h => hnw b (.inl h) _ e rfl
  have had : ∀ b off, a = some ⟨b, off, none⟩ → 0 < s.l.length → b ≠ D.qb ∧ some b ≠ D.v.ownBlock := fun b off e h0 => ⟨fun h => (hlx b off e h0).1 (.inr (.inl h)), fun h => (hlx b off e h0).1 (.inr (.inr h.symm))⟩
  have HRW := hid (fun (w : World) (m : MidF A D N n (K + 2) (Ph.rP n P s.l) o X w) => show Lp A D N n (K + 2) (Ph.rP n P s.l) o X V.heap.size k s.l.length s.l 0 w from
    ⟨m.1, s.l, own_fq ow m.2 (fun g e h => by
      obtain ⟨x, hx, rfl⟩ := own_at e
      exact hnw _ h x hx rfl), rfl, fun u _ => rfl⟩)
  have HOUT := hid (fun (w : World) (m : Mid A D N n (K + 2) (Ph.rP n P s.l) o X w) => show PlO A D N n (K + 2) (doP n P s) W (.returned (.bool true)) w from by
    rw [hP]
    exact m.out bWX (fun x e => by have := hlo x e; omega))
  have hso : Hid (s.l.length = 0) ∨ ∃ g, o = some ⟨g, 0, none⟩ := by
    rcases Nat.eq_zero_or_pos s.l.length with h0 | h0
    · exact .inl h0
    · obtain ⟨g, c', cur, e, _⟩ := own_some ow h0
      cases e
      exact .inr ⟨g, rfl⟩
  have hsa : Hid (s.l.length = 0) ∨ ∃ b off, a = some ⟨b, off, none⟩ := hs.l.shape
  have HT := hid (show s.l.length ≤ 16777216 from hl)
  have x1 := (HX1.out X (Fq.refl _ _)).1
  have x2 := (HX1.out X (Fq.refl _ _)).2
  have x0 : X.cell? ⟨W.heap.size, 0, none⟩ = some (.int .u8 s.kind) := row_cell hnX 0
  have v0 : V.cell? ⟨W.heap.size, 0, none⟩ = some (.int .u8 s.kind) := row_cell hnew 0
  have v1 : V.cell? ⟨W.heap.size, 1, none⟩ = some (.int .i64 s.v) := row_cell hnew 1
  have v2 : V.cell? ⟨W.heap.size, 2, none⟩ = some (.slice a s.l.length ca) := row_cell hnew 2
  have C1 := hid (HB.reach1 (c := k) hNX hK hLo hao hml)
  have C2 := hid (fun (w : World) (h : Hlf A D N n (K + 2) (Ph.rP n P s.l) P o X w) => h.reach2 (c := ca) (HL1.out w h.fr) hl)
  clear hsz1 bx hnew hLV hrun ow bX bWX hvx hNX hlo hnw hnX hLX HB hbox hboxo hlx hLo hao had hP hml hus hs H hN hK hk0 hl hr
  generalize ht : s.l.length = t at *
  generalize hkd : s.kind = kd at *
  generalize hsv : s.v = v at *
  have HTE := hid ht
  clear ht hkd hsv
  go_enter Try.func14, Try.ntmps14
  go_wp2_with (first
    | (at_builtin; refine wpList_append_run rfl (.tmp 22) (.tmp 24) 33 33 rfl rfl rfl HR.out ?_))
  go_at_call 21
  refine C1.out.mono ?_
  rintro e w1 ⟨rfl, h1⟩
  have C3 := hid (C2.out _ h1)
  have ⟨y1, y2⟩ := HX1.out _ h1.fr
  clear C1 C2 h1 x0 x1 x2
  go_wp2_with (fail)
  go_at_call 30
  refine C3.out.mono ?_
  rintro e w2 ⟨rfl, m⟩
  have HRW := hid (HRW.out _ m)
  clear C3 m y1 y2
  have hbb : (Ph.rT n P s.l == Ph.rT n P s.l) = true := by simp
  have hcc : (Ph.rB n P s.l == Ph.rB n P s.l) = true := by simp
  have hee : (Ph.mE n s.l == Ph.mE n s.l) = true := by simp
  generalize Ph.rT n P s.l = zb at *
  generalize Ph.rB n P s.l = zc at *
  generalize Ph.mE n s.l = ze at *
  go_wp2_with (fail)
  rcases hso with Zo | ⟨gl, hgl⟩
  case' inr => subst hgl
  all_goals
    go_loopw [21] (fun i wr => ∃ j : Nat, j ≤ t ∧ i = .int .i64 (j : Nat) ∧ Hid (Lp A D N n (K + 2) (Ph.rP n P s.l) _ X V.heap.size k t s.l j wr)) (fun i _ => t - (intOf i).toNat)
    case atStart => exact ⟨0, Nat.zero_le _, rfl, HRW⟩
    case round =>
      obtain ⟨j, hj, rfl, HI⟩ := hrel
      by_cases hlt : j < t
      · first
          | (exfalso; have := Zo.out; omega)
          | (rcases hsa with Za | ⟨b, off, hab⟩
             · exfalso; have := Za.out; omega
             · subst hab
               have hlt' : (j : Int) < t := by omega
               have hwk : wrap64 ((j : Int) + 1) = (j : Int) + 1 := by have := HT.out; unfold wrap64; omega
               have hx2 := HX2.out wr HI.out.md.fr
               have hL := (HL2.out wr HI.out.md.fr b off rfl j (by first | exact hlt | (rw [HTE.out]; exact hlt))).1
               obtain ⟨xs, r1, r2, r3⟩ := HI.out.row
               have y0 := (own_cell r1 hlt).1
               have y1 := (own_cell r1 hlt).2
               rw [lis_at (by omega), r3 j (Nat.le_refl _)] at y0
               have HS := hid (fun (q : Nat) => HI.out.set q)
               generalize s.l.getD j 0 = y at *
               have hyy : (y != y) = false := by simp
               clear HI HRW HL2 HX2 r1 r2 r3
               go_wp2_with (fail)
               go_quiet (fail)
               go_wp2_with (fail)
               rw [hwk]
               exact ⟨⟨j + 1, hlt, rfl, hid (HS.out nq)⟩, by simp only [intOf]; exact meas hlt⟩)
      · have hge : ¬ (j : Int) < t := by omega
        have HM := hid HI.out.md
        clear HI HRW
        go_wp2
        go_ret
        exact HOUT.out _ HM.out
set_option maxHeartbeats 8000000 in
theorem plays14_4 (H : Bt A D N n K P P W) (hN : N ≤ W.heap.size) (hK : K + 3 ≤ 4611686018427387904) (hk0 : P.k ≤ 100000) {s : Opr} {a : Option Addr} {ca : Nat} (hs : OpOk W s a N) (hl : s.l.length ≤ 16777216) (hr : s.kind % 9 = 4) :
    Calls Try.prog 14 #[.pointer (some ⟨A.pb, 0, none⟩), .pointer (some ⟨D.qb, 0, none⟩), .agg #[.int .u8 s.kind, .int .i64 s.v, .slice a s.l.length ca]] W fun e w' => PlO A D N n (K + 2) (doP n P s) W e w' := by
  obtain ⟨hm1, hm2⟩ := mod9 hs.kind
  rw [hr] at hm1 hm2
  have hP : doP n P s = Ph.rP n P s.l := by unfold doP; rw [hr]; rfl
  have hml : s.l.length ≤ maxLen := hs.len
  have hus : Us P.s := by obtain ⟨_, _, _, _, _, _, _, _, _, _, h⟩ := H.p.px; exact h
  have bx := below_box W (.cells #[.int .u8 s.kind, .int .i64 s.v, .slice a s.l.length ca] 35)
  have hnew := heap_alloc_new W (.cells #[.int .u8 s.kind, .int .i64 s.v, .slice a s.l.length ca] 35)
  have hsz1 : (W.alloc (.cells #[.int .u8 s.kind, .int .i64 s.v, .slice a s.l.length ca] 35)).heap.size = W.heap.size + 1 := by simp only [World.alloc, Array.size_push]
  obtain ⟨V, hV⟩ : ∃ V, W.alloc (.cells #[.int .u8 s.kind, .int .i64 s.v, .slice a s.l.length ca] 35) = V := ⟨_, rfl⟩
  rw [hV] at bx hnew hsz1
  have hLV := hs.l.all bx
  obtain ⟨o, k, X, hrun, ow, bX⟩ := appL (c := ca) hLV hl
  have HR := hid hrun
  have bWX : Below W.heap.size W X := bx.trans (bX.mono bx.size)
  have hvx : V.heap.size ≤ X.heap.size := bX.size
  have hNX : N ≤ X.heap.size := by omega
  have hlo := own_new ow
  have hnw : ∀ g, Ow A D g → No o g := fun g hg a e h => by have := H.lt hg; have := hlo a e; omega
  have hnX : X.heap[W.heap.size]? = some (.cells #[.int .u8 s.kind, .int .i64 s.v, .slice a s.l.length ca] 35 (0, 0)) := (bX.block _ (by omega)).trans hnew
  have hLX := hLV.all bX
  have HB : Beg A D N n K P o X := ⟨H.below bWX, fun x e => by
      subst e
      obtain ⟨_, cur, h⟩ := own_blk ow rfl
      exact lt_of_blk h, fun x hx a e h => by
      obtain ⟨cs, h1⟩ := H.d.atT hx
      have := lt_of_blk h1
      have := hlo a e
      omega, fun x hx a e h => by
      obtain ⟨cs, h1⟩ := H.d.atB hx
      have := lt_of_blk h1
      have := hlo a e
      omega, hnw⟩
  have hbox : ¬ Ow A D W.heap.size := fun h => by have := H.lt h; omega
  have hboxo : No o W.heap.size := fun a e h => by have := hlo a e; omega
  have HX1 := hid (fun (w : World) (f : Fp A D X w) => show w.cell? ⟨W.heap.size, 1, none⟩ = some (.int .i64 s.v) ∧ w.cell? ⟨W.heap.size, 2, none⟩ = some (.slice a s.l.length ca) from
    ⟨row_cell (f.block _ _ hnX hbox) 1, row_cell (f.block _ _ hnX hbox) 2⟩)
  have HX2 := hid (fun (w : World) (f : Fq (fun g => ¬ Ow A D g ∧ No o g) X w) => show w.cell? ⟨W.heap.size, 2, none⟩ = some (.slice a s.l.length ca) from
    row_cell (f.block _ _ hnX ⟨hbox, hboxo⟩) 2)
  have hlx : ∀ b off, a = some ⟨b, off, none⟩ → 0 < s.l.length → ¬ Ow A D b ∧ No o b := fun b off e h0 => by
    have hb := hs.ap b off e h0
    exact ⟨fun h => by have := H.lo h; omega, fun a e h => by have := hlo a e; omega⟩
  have HL1 := hid (fun (w : World) (f : Fp A D X w) => show Lw w a s.l from hLX.fq f (fun b off e h0 => (hlx b off e h0).1))
  have HL2 := hid (fun (w : World) (f : Fq (fun g => ¬ Ow A D g ∧ No o g) X w) (b off : Nat) (e : a = some ⟨b, off, none⟩) (j : Nat) (hj : j < s.l.length) => (e ▸ hLX.fq f hlx : Lw w (some ⟨b, off, none⟩) s.l).at hj)
  have hLo : Lw X o s.l := lw_own ow (lw_bd hLV)
  have hao : ∀ b off, o = some ⟨b, off, none⟩ → 0 < s.l.length → ¬ A.own b := fun b off e _ h => hnw b (.inl h) _ e rfl
  have had : ∀ b off, a = some ⟨b, off, none⟩ → 0 < s.l.length → b ≠ D.qb ∧ some b ≠ D.v.ownBlock := fun b off e h0 => ⟨fun h => (hlx b off e h0).1 (.inr (.inl h)), fun h => (hlx b off e h0).1 (.inr (.inr h.symm))⟩
  have HRW := hid (fun (w : World) (m : MidF A D N n (K + 2) (Ph.rP n P s.l) o X w) => show Lp A D N n (K + 2) (Ph.rP n P s.l) o X V.heap.size k s.l.length s.l 0 w from
    ⟨m.1, s.l, own_fq ow m.2 (fun g e h => by
      obtain ⟨x, hx, rfl⟩ := own_at e
      exact hnw _ h x hx rfl), rfl, fun u _ => rfl⟩)
  have HOUT := hid (fun (w : World) (m : Mid A D N n (K + 2) (Ph.rP n P s.l) o X w) => show PlO A D N n (K + 2) (doP n P s) W (.returned (.bool true)) w from by
    rw [hP]
    exact m.out bWX (fun x e => by have := hlo x e; omega))
  have hso : Hid (s.l.length = 0) ∨ ∃ g, o = some ⟨g, 0, none⟩ := by
    rcases Nat.eq_zero_or_pos s.l.length with h0 | h0
    · exact .inl h0
    · obtain ⟨g, c', cur, e, _⟩ := own_some ow h0
      cases e
      exact .inr ⟨g, rfl⟩
  have hsa : Hid (s.l.length = 0) ∨ ∃ b off, a = some ⟨b, off, none⟩ := hs.l.shape
  have HT := hid (show s.l.length ≤ 16777216 from hl)
  have x1 := (HX1.out X (Fq.refl _ _)).1
  have x2 := (HX1.out X (Fq.refl _ _)).2
  have x0 : X.cell? ⟨W.heap.size, 0, none⟩ = some (.int .u8 s.kind) := row_cell hnX 0
  have v0 : V.cell? ⟨W.heap.size, 0, none⟩ = some (.int .u8 s.kind) := row_cell hnew 0
  have v1 : V.cell? ⟨W.heap.size, 1, none⟩ = some (.int .i64 s.v) := row_cell hnew 1
  have v2 : V.cell? ⟨W.heap.size, 2, none⟩ = some (.slice a s.l.length ca) := row_cell hnew 2
  have C1 := hid (HB.reach1 (c := k) hNX hK hLo hao hml)
  have C2 := hid (fun (w : World) (h : Hlf A D N n (K + 2) (Ph.rP n P s.l) P o X w) => h.reach2 (c := ca) (HL1.out w h.fr) hl)
  clear hsz1 bx hnew hLV hrun ow bX bWX hvx hNX hlo hnw hnX hLX HB hbox hboxo hlx hLo hao had hP hml hus hs H hN hK hk0 hl hr
  generalize ht : s.l.length = t at *
  generalize hkd : s.kind = kd at *
  generalize hsv : s.v = v at *
  have HTE := hid ht
  clear ht hkd hsv
  go_enter Try.func14, Try.ntmps14
  go_wp2_with (first
    | (at_builtin; refine wpList_append_run rfl (.tmp 22) (.tmp 24) 33 33 rfl rfl rfl HR.out ?_))
  go_at_call 21
  refine C1.out.mono ?_
  rintro e w1 ⟨rfl, h1⟩
  have C3 := hid (C2.out _ h1)
  have ⟨y1, y2⟩ := HX1.out _ h1.fr
  clear C1 C2 h1 x0 x1 x2
  go_wp2_with (fail)
  go_at_call 30
  refine C3.out.mono ?_
  rintro e w2 ⟨rfl, m⟩
  have HRW := hid (HRW.out _ m)
  clear C3 m y1 y2
  have hbb : (Ph.rT n P s.l == Ph.rT n P s.l) = true := by simp
  have hcc : (Ph.rB n P s.l == Ph.rB n P s.l) = true := by simp
  have hee : (Ph.mE n s.l == Ph.mE n s.l) = true := by simp
  generalize Ph.rT n P s.l = zb at *
  generalize Ph.rB n P s.l = zc at *
  generalize Ph.mE n s.l = ze at *
  go_wp2_with (fail)
  rcases hso with Zo | ⟨gl, hgl⟩
  case' inr => subst hgl
  all_goals
    go_loopw [21] (fun i wr => ∃ j : Nat, j ≤ t ∧ i = .int .i64 (j : Nat) ∧ Hid (Lp A D N n (K + 2) (Ph.rP n P s.l) _ X V.heap.size k t s.l j wr)) (fun i _ => t - (intOf i).toNat)
    case atStart => exact ⟨0, Nat.zero_le _, rfl, HRW⟩
    case round =>
      obtain ⟨j, hj, rfl, HI⟩ := hrel
      by_cases hlt : j < t
      · first
          | (exfalso; have := Zo.out; omega)
          | (rcases hsa with Za | ⟨b, off, hab⟩
             · exfalso; have := Za.out; omega
             · subst hab
               have hlt' : (j : Int) < t := by omega
               have hwk : wrap64 ((j : Int) + 1) = (j : Int) + 1 := by have := HT.out; unfold wrap64; omega
               have hx2 := HX2.out wr HI.out.md.fr
               have hL := (HL2.out wr HI.out.md.fr b off rfl j (by first | exact hlt | (rw [HTE.out]; exact hlt))).1
               obtain ⟨xs, r1, r2, r3⟩ := HI.out.row
               have y0 := (own_cell r1 hlt).1
               have y1 := (own_cell r1 hlt).2
               rw [lis_at (by omega), r3 j (Nat.le_refl _)] at y0
               have HS := hid (fun (q : Nat) => HI.out.set q)
               generalize s.l.getD j 0 = y at *
               have hyy : (y != y) = false := by simp
               clear HI HRW HL2 HX2 r1 r2 r3
               go_wp2_with (fail)
               go_quiet (fail)
               go_wp2_with (fail)
               rw [hwk]
               exact ⟨⟨j + 1, hlt, rfl, hid (HS.out nq)⟩, by simp only [intOf]; exact meas hlt⟩)
      · have hge : ¬ (j : Int) < t := by omega
        have HM := hid HI.out.md
        clear HI HRW
        go_wp2
        go_ret
        exact HOUT.out _ HM.out
set_option maxHeartbeats 8000000 in
theorem plays14_5 (H : Bt A D N n K P P W) (hN : N ≤ W.heap.size) (hK : K + 3 ≤ 4611686018427387904) (hk0 : P.k ≤ 100000) {s : Opr} {a : Option Addr} {ca : Nat} (hs : OpOk W s a N) (hl : s.l.length ≤ 16777216) (hr : s.kind % 9 = 5) :
    Calls Try.prog 14 #[.pointer (some ⟨A.pb, 0, none⟩), .pointer (some ⟨D.qb, 0, none⟩), .agg #[.int .u8 s.kind, .int .i64 s.v, .slice a s.l.length ca]] W fun e w' => PlO A D N n (K + 2) (doP n P s) W e w' := by
  obtain ⟨hm1, hm2⟩ := mod9 hs.kind
  rw [hr] at hm1 hm2
  have hP : doP n P s = Ph.turn n P := by unfold doP; rw [hr]; rfl
  have hml : s.l.length ≤ maxLen := hs.len
  have hus : Us P.s := by obtain ⟨_, _, _, _, _, _, _, _, _, _, h⟩ := H.p.px; exact h
  have bx := below_box W (.cells #[.int .u8 s.kind, .int .i64 s.v, .slice a s.l.length ca] 35)
  have hnew := heap_alloc_new W (.cells #[.int .u8 s.kind, .int .i64 s.v, .slice a s.l.length ca] 35)
  have hsz1 : (W.alloc (.cells #[.int .u8 s.kind, .int .i64 s.v, .slice a s.l.length ca] 35)).heap.size = W.heap.size + 1 := by simp only [World.alloc, Array.size_push]
  obtain ⟨V, hV⟩ : ∃ V, W.alloc (.cells #[.int .u8 s.kind, .int .i64 s.v, .slice a s.l.length ca] 35) = V := ⟨_, rfl⟩
  rw [hV] at bx hnew hsz1
  have hLV := hs.l.all bx
  obtain ⟨o, k, X, hrun, ow, bX⟩ := appL (c := ca) hLV hl
  have HR := hid hrun
  have bWX : Below W.heap.size W X := bx.trans (bX.mono bx.size)
  have hvx : V.heap.size ≤ X.heap.size := bX.size
  have hNX : N ≤ X.heap.size := by omega
  have hlo := own_new ow
  have hnw : ∀ g, Ow A D g → No o g := fun g hg a e h => by have := H.lt hg; have := hlo a e; omega
  have hnX : X.heap[W.heap.size]? = some (.cells #[.int .u8 s.kind, .int .i64 s.v, .slice a s.l.length ca] 35 (0, 0)) := (bX.block _ (by omega)).trans hnew
  have hLX := hLV.all bX
  have HB : Beg A D N n K P o X := ⟨H.below bWX, fun x e => by
      subst e
      obtain ⟨_, cur, h⟩ := own_blk ow rfl
      exact lt_of_blk h, fun x hx a e h => by
      obtain ⟨cs, h1⟩ := H.d.atT hx
      have := lt_of_blk h1
      have := hlo a e
      omega, fun x hx a e h => by
      obtain ⟨cs, h1⟩ := H.d.atB hx
      have := lt_of_blk h1
      have := hlo a e
      omega, hnw⟩
  have hbox : ¬ Ow A D W.heap.size := fun h => by have := H.lt h; omega
  have hboxo : No o W.heap.size := fun a e h => by have := hlo a e; omega
  have HX1 := hid (fun (w : World) (f : Fp A D X w) => show w.cell? ⟨W.heap.size, 1, none⟩ = some (.int .i64 s.v) ∧ w.cell? ⟨W.heap.size, 2, none⟩ = some (.slice a s.l.length ca) from
    ⟨row_cell (f.block _ _ hnX hbox) 1, row_cell (f.block _ _ hnX hbox) 2⟩)
  have HX2 := hid (fun (w : World) (f : Fq (fun g => ¬ Ow A D g ∧ No o g) X w) => show w.cell? ⟨W.heap.size, 2, none⟩ = some (.slice a s.l.length ca) from
    row_cell (f.block _ _ hnX ⟨hbox, hboxo⟩) 2)
  have hlx : ∀ b off, a = some ⟨b, off, none⟩ → 0 < s.l.length → ¬ Ow A D b ∧ No o b := fun b off e h0 => by
    have hb := hs.ap b off e h0
    exact ⟨fun h => by have := H.lo h; omega, fun a e h => by have := hlo a e; omega⟩
  have HL1 := hid (fun (w : World) (f : Fp A D X w) => show Lw w a s.l from hLX.fq f (fun b off e h0 => (hlx b off e h0).1))
  have HL2 := hid (fun (w : World) (f : Fq (fun g => ¬ Ow A D g ∧ No o g) X w) (b off : Nat) (e : a = some ⟨b, off, none⟩) (j : Nat) (hj : j < s.l.length) => (e ▸ hLX.fq f hlx : Lw w (some ⟨b, off, none⟩) s.l).at hj)
  have hLo : Lw X o s.l := lw_own ow (lw_bd hLV)
  have hao : ∀ b off, o = some ⟨b, off, none⟩ → 0 < s.l.length → ¬ A.own b := fun b off e _ h => hnw b (.inl h) _ e rfl
  have had : ∀ b off, a = some ⟨b, off, none⟩ → 0 < s.l.length → b ≠ D.qb ∧ some b ≠ D.v.ownBlock := fun b off e h0 => ⟨fun h => (hlx b off e h0).1 (.inr (.inl h)), fun h => (hlx b off e h0).1 (.inr (.inr h.symm))⟩
  have HRW := hid (fun (w : World) (m : MidF A D N n (K + 2) (Ph.turn n P) o X w) => show Lp A D N n (K + 2) (Ph.turn n P) o X V.heap.size k s.l.length s.l 0 w from
    ⟨m.1, s.l, own_fq ow m.2 (fun g e h => by
      obtain ⟨x, hx, rfl⟩ := own_at e
      exact hnw _ h x hx rfl), rfl, fun u _ => rfl⟩)
  have HOUT := hid (fun (w : World) (m : Mid A D N n (K + 2) (Ph.turn n P) o X w) => show PlO A D N n (K + 2) (doP n P s) W (.returned (.bool true)) w from by
    rw [hP]
    exact m.out bWX (fun x e => by have := hlo x e; omega))
  have hso : Hid (s.l.length = 0) ∨ ∃ g, o = some ⟨g, 0, none⟩ := by
    rcases Nat.eq_zero_or_pos s.l.length with h0 | h0
    · exact .inl h0
    · obtain ⟨g, c', cur, e, _⟩ := own_some ow h0
      cases e
      exact .inr ⟨g, rfl⟩
  have hsa : Hid (s.l.length = 0) ∨ ∃ b off, a = some ⟨b, off, none⟩ := hs.l.shape
  have HT := hid (show s.l.length ≤ 16777216 from hl)
  have x1 := (HX1.out X (Fq.refl _ _)).1
  have x2 := (HX1.out X (Fq.refl _ _)).2
  have x0 : X.cell? ⟨W.heap.size, 0, none⟩ = some (.int .u8 s.kind) := row_cell hnX 0
  have v0 : V.cell? ⟨W.heap.size, 0, none⟩ = some (.int .u8 s.kind) := row_cell hnew 0
  have v1 : V.cell? ⟨W.heap.size, 1, none⟩ = some (.int .i64 s.v) := row_cell hnew 1
  have v2 : V.cell? ⟨W.heap.size, 2, none⟩ = some (.slice a s.l.length ca) := row_cell hnew 2
  have C1 := hid (HB.turn1 hNX hK)
  have C2 := hid (fun (w : World) (h : Hlf A D N n (K + 2) (Ph.turn n P) P o X w) => h.turn2 hk0 hus)
  have hkw : IntKind.u8.wrap ((Ph.knd P.k : Nat) : Int) = ((Ph.knd P.k : Nat) : Int) := by have := kndLt P.k; simp [IntKind.wrap, IntKind.bits, IntKind.signed]; omega
  clear hsz1 bx hnew hLV hrun ow bX bWX hvx hNX hlo hnw hnX hLX HB hbox hboxo hlx hLo hao had hP hml hus hs H hN hK hk0 hl hr
  generalize ht : s.l.length = t at *
  generalize hkd : s.kind = kd at *
  generalize hsv : s.v = v at *
  have HTE := hid ht
  clear ht hkd hsv
  go_enter Try.func14, Try.ntmps14
  go_wp2_with (first
    | (at_builtin; refine wpList_append_run rfl (.tmp 22) (.tmp 24) 33 33 rfl rfl rfl HR.out ?_))
  go_at_call 17
  refine C1.out.mono ?_
  rintro e w1 ⟨rfl, h1⟩
  have C3 := hid (C2.out _ h1)
  have ⟨y1, y2⟩ := HX1.out _ h1.fr
  clear C1 C2 h1 x0 x1 x2
  have hbb : (((Ph.knd P.k : Nat) : Int) == ((Ph.knd P.k : Nat) : Int)) = true := by simp
  generalize ((Ph.knd P.k : Nat) : Int) = zb at *
  go_wp2_with (fail)
  go_at_call 31
  refine C3.out.mono ?_
  rintro e w2 ⟨rfl, m⟩
  have HRW := hid (HRW.out _ m)
  clear C3 m y1 y2
  go_wp2_with (fail)
  rcases hso with Zo | ⟨gl, hgl⟩
  case' inr => subst hgl
  all_goals
    go_loopw [21] (fun i wr => ∃ j : Nat, j ≤ t ∧ i = .int .i64 (j : Nat) ∧ Hid (Lp A D N n (K + 2) (Ph.turn n P) _ X V.heap.size k t s.l j wr)) (fun i _ => t - (intOf i).toNat)
    case atStart => exact ⟨0, Nat.zero_le _, rfl, HRW⟩
    case round =>
      obtain ⟨j, hj, rfl, HI⟩ := hrel
      by_cases hlt : j < t
      · first
          | (exfalso; have := Zo.out; omega)
          | (rcases hsa with Za | ⟨b, off, hab⟩
             · exfalso; have := Za.out; omega
             · subst hab
               have hlt' : (j : Int) < t := by omega
               have hwk : wrap64 ((j : Int) + 1) = (j : Int) + 1 := by have := HT.out; unfold wrap64; omega
               have hx2 := HX2.out wr HI.out.md.fr
               have hL := (HL2.out wr HI.out.md.fr b off rfl j (by first | exact hlt | (rw [HTE.out]; exact hlt))).1
               obtain ⟨xs, r1, r2, r3⟩ := HI.out.row
               have y0 := (own_cell r1 hlt).1
               have y1 := (own_cell r1 hlt).2
               rw [lis_at (by omega), r3 j (Nat.le_refl _)] at y0
               have HS := hid (fun (q : Nat) => HI.out.set q)
               generalize s.l.getD j 0 = y at *
               have hyy : (y != y) = false := by simp
               clear HI HRW HL2 HX2 r1 r2 r3
               go_wp2_with (fail)
               go_quiet (fail)
               go_wp2_with (fail)
               rw [hwk]
               exact ⟨⟨j + 1, hlt, rfl, hid (HS.out nq)⟩, by simp only [intOf]; exact meas hlt⟩)
      · have hge : ¬ (j : Int) < t := by omega
        have HM := hid HI.out.md
        clear HI HRW
        go_wp2
        go_ret
        exact HOUT.out _ HM.out
set_option maxHeartbeats 8000000 in
theorem plays14_6 (H : Bt A D N n K P P W) (hN : N ≤ W.heap.size) (hK : K + 3 ≤ 4611686018427387904) (hk0 : P.k ≤ 100000) {s : Opr} {a : Option Addr} {ca : Nat} (hs : OpOk W s a N) (hl : s.l.length ≤ 16777216) (hr : s.kind % 9 = 6) :
    Calls Try.prog 14 #[.pointer (some ⟨A.pb, 0, none⟩), .pointer (some ⟨D.qb, 0, none⟩), .agg #[.int .u8 s.kind, .int .i64 s.v, .slice a s.l.length ca]] W fun e w' => PlO A D N n (K + 2) (doP n P s) W e w' := by
  obtain ⟨hm1, hm2⟩ := mod9 hs.kind
  rw [hr] at hm1 hm2
  have hP : doP n P s = draw P := by unfold doP; rw [hr]; rfl
  have hml : s.l.length ≤ maxLen := hs.len
  have hus : Us P.s := by obtain ⟨_, _, _, _, _, _, _, _, _, _, h⟩ := H.p.px; exact h
  have bx := below_box W (.cells #[.int .u8 s.kind, .int .i64 s.v, .slice a s.l.length ca] 35)
  have hnew := heap_alloc_new W (.cells #[.int .u8 s.kind, .int .i64 s.v, .slice a s.l.length ca] 35)
  have hsz1 : (W.alloc (.cells #[.int .u8 s.kind, .int .i64 s.v, .slice a s.l.length ca] 35)).heap.size = W.heap.size + 1 := by simp only [World.alloc, Array.size_push]
  obtain ⟨V, hV⟩ : ∃ V, W.alloc (.cells #[.int .u8 s.kind, .int .i64 s.v, .slice a s.l.length ca] 35) = V := ⟨_, rfl⟩
  rw [hV] at bx hnew hsz1
  have hLV := hs.l.all bx
  obtain ⟨o, k, X, hrun, ow, bX⟩ := appL (c := ca) hLV hl
  have HR := hid hrun
  have bWX : Below W.heap.size W X := bx.trans (bX.mono bx.size)
  have hvx : V.heap.size ≤ X.heap.size := bX.size
  have hNX : N ≤ X.heap.size := by omega
  have hlo := own_new ow
  have hnw : ∀ g, Ow A D g → No o g := fun g hg a e h => by have := H.lt hg; have := hlo a e; omega
  have hnX : X.heap[W.heap.size]? = some (.cells #[.int .u8 s.kind, .int .i64 s.v, .slice a s.l.length ca] 35 (0, 0)) := (bX.block _ (by omega)).trans hnew
  have hLX := hLV.all bX
  have HB : Beg A D N n K P o X := ⟨H.below bWX, fun x e => by
      subst e
      obtain ⟨_, cur, h⟩ := own_blk ow rfl
      exact lt_of_blk h, fun x hx a e h => by
      obtain ⟨cs, h1⟩ := H.d.atT hx
      have := lt_of_blk h1
      have := hlo a e
      omega, fun x hx a e h => by
      obtain ⟨cs, h1⟩ := H.d.atB hx
      have := lt_of_blk h1
      have := hlo a e
      omega, hnw⟩
  have hbox : ¬ Ow A D W.heap.size := fun h => by have := H.lt h; omega
  have hboxo : No o W.heap.size := fun a e h => by have := hlo a e; omega
  have HX1 := hid (fun (w : World) (f : Fp A D X w) => show w.cell? ⟨W.heap.size, 1, none⟩ = some (.int .i64 s.v) ∧ w.cell? ⟨W.heap.size, 2, none⟩ = some (.slice a s.l.length ca) from
    ⟨row_cell (f.block _ _ hnX hbox) 1, row_cell (f.block _ _ hnX hbox) 2⟩)
  have HX2 := hid (fun (w : World) (f : Fq (fun g => ¬ Ow A D g ∧ No o g) X w) => show w.cell? ⟨W.heap.size, 2, none⟩ = some (.slice a s.l.length ca) from
    row_cell (f.block _ _ hnX ⟨hbox, hboxo⟩) 2)
  have hlx : ∀ b off, a = some ⟨b, off, none⟩ → 0 < s.l.length → ¬ Ow A D b ∧ No o b := fun b off e h0 => by
    have hb := hs.ap b off e h0
    exact ⟨fun h => by have := H.lo h; omega, fun a e h => by have := hlo a e; omega⟩
  have HL1 := hid (fun (w : World) (f : Fp A D X w) => show Lw w a s.l from hLX.fq f (fun b off e h0 => (hlx b off e h0).1))
  have HL2 := hid (fun (w : World) (f : Fq (fun g => ¬ Ow A D g ∧ No o g) X w) (b off : Nat) (e : a = some ⟨b, off, none⟩) (j : Nat) (hj : j < s.l.length) => (e ▸ hLX.fq f hlx : Lw w (some ⟨b, off, none⟩) s.l).at hj)
  have hLo : Lw X o s.l := lw_own ow (lw_bd hLV)
  have hao : ∀ b off, o = some ⟨b, off, none⟩ → 0 < s.l.length → ¬ A.own b := fun b off e _ h => hnw b (.inl h) _ e rfl
  have had : ∀ b off, a = some ⟨b, off, none⟩ → 0 < s.l.length → b ≠ D.qb ∧ some b ≠ D.v.ownBlock := fun b off e h0 => ⟨fun h => (hlx b off e h0).1 (.inr (.inl h)), fun h => (hlx b off e h0).1 (.inr (.inr h.symm))⟩
  have HRW := hid (fun (w : World) (m : MidF A D N n (K + 2) (draw P) o X w) => show Lp A D N n (K + 2) (draw P) o X V.heap.size k s.l.length s.l 0 w from
    ⟨m.1, s.l, own_fq ow m.2 (fun g e h => by
      obtain ⟨x, hx, rfl⟩ := own_at e
      exact hnw _ h x hx rfl), rfl, fun u _ => rfl⟩)
  have HOUT := hid (fun (w : World) (m : Mid A D N n (K + 2) (draw P) o X w) => show PlO A D N n (K + 2) (doP n P s) W (.returned (.bool true)) w from by
    rw [hP]
    exact m.out bWX (fun x e => by have := hlo x e; omega))
  have hso : Hid (s.l.length = 0) ∨ ∃ g, o = some ⟨g, 0, none⟩ := by
    rcases Nat.eq_zero_or_pos s.l.length with h0 | h0
    · exact .inl h0
    · obtain ⟨g, c', cur, e, _⟩ := own_some ow h0
      cases e
      exact .inr ⟨g, rfl⟩
  have hsa : Hid (s.l.length = 0) ∨ ∃ b off, a = some ⟨b, off, none⟩ := hs.l.shape
  have HT := hid (show s.l.length ≤ 16777216 from hl)
  have x1 := (HX1.out X (Fq.refl _ _)).1
  have x2 := (HX1.out X (Fq.refl _ _)).2
  have x0 : X.cell? ⟨W.heap.size, 0, none⟩ = some (.int .u8 s.kind) := row_cell hnX 0
  have v0 : V.cell? ⟨W.heap.size, 0, none⟩ = some (.int .u8 s.kind) := row_cell hnew 0
  have v1 : V.cell? ⟨W.heap.size, 1, none⟩ = some (.int .i64 s.v) := row_cell hnew 1
  have v2 : V.cell? ⟨W.heap.size, 2, none⟩ = some (.slice a s.l.length ca) := row_cell hnew 2
  have C1 := hid (HB.draw1 hNX hK)
  have C2 := hid (fun (w : World) (h : Hlf A D N n (K + 2) (draw P) P o X w) => h.draw2 hus)
  clear hsz1 bx hnew hLV hrun ow bX bWX hvx hNX hlo hnw hnX hLX HB hbox hboxo hlx hLo hao had hP hml hus hs H hN hK hk0 hl hr
  generalize ht : s.l.length = t at *
  generalize hkd : s.kind = kd at *
  generalize hsv : s.v = v at *
  have HTE := hid ht
  clear ht hkd hsv
  go_enter Try.func14, Try.ntmps14
  go_wp2_with (first
    | (at_builtin; refine wpList_append_run rfl (.tmp 22) (.tmp 24) 33 33 rfl rfl rfl HR.out ?_))
  go_at_call 22
  refine C1.out.mono ?_
  rintro e w1 ⟨rfl, h1⟩
  have C3 := hid (C2.out _ h1)
  have ⟨y1, y2⟩ := HX1.out _ h1.fr
  clear C1 C2 h1 x0 x1 x2
  have hbb : (drw P.s == drw P.s) = true := by simp
  generalize drw P.s = zb at *
  go_wp2_with (fail)
  go_at_call 32
  refine C3.out.mono ?_
  rintro e w2 ⟨rfl, m⟩
  have HRW := hid (HRW.out _ m)
  clear C3 m y1 y2
  go_wp2_with (fail)
  rcases hso with Zo | ⟨gl, hgl⟩
  case' inr => subst hgl
  all_goals
    go_loopw [21] (fun i wr => ∃ j : Nat, j ≤ t ∧ i = .int .i64 (j : Nat) ∧ Hid (Lp A D N n (K + 2) (draw P) _ X V.heap.size k t s.l j wr)) (fun i _ => t - (intOf i).toNat)
    case atStart => exact ⟨0, Nat.zero_le _, rfl, HRW⟩
    case round =>
      obtain ⟨j, hj, rfl, HI⟩ := hrel
      by_cases hlt : j < t
      · first
          | (exfalso; have := Zo.out; omega)
          | (rcases hsa with Za | ⟨b, off, hab⟩
             · exfalso; have := Za.out; omega
             · subst hab
               have hlt' : (j : Int) < t := by omega
               have hwk : wrap64 ((j : Int) + 1) = (j : Int) + 1 := by have := HT.out; unfold wrap64; omega
               have hx2 := HX2.out wr HI.out.md.fr
               have hL := (HL2.out wr HI.out.md.fr b off rfl j (by first | exact hlt | (rw [HTE.out]; exact hlt))).1
               obtain ⟨xs, r1, r2, r3⟩ := HI.out.row
               have y0 := (own_cell r1 hlt).1
               have y1 := (own_cell r1 hlt).2
               rw [lis_at (by omega), r3 j (Nat.le_refl _)] at y0
               have HS := hid (fun (q : Nat) => HI.out.set q)
               generalize s.l.getD j 0 = y at *
               have hyy : (y != y) = false := by simp
               clear HI HRW HL2 HX2 r1 r2 r3
               go_wp2_with (fail)
               go_quiet (fail)
               go_wp2_with (fail)
               rw [hwk]
               exact ⟨⟨j + 1, hlt, rfl, hid (HS.out nq)⟩, by simp only [intOf]; exact meas hlt⟩)
      · have hge : ¬ (j : Int) < t := by omega
        have HM := hid HI.out.md
        clear HI HRW
        go_wp2
        go_ret
        exact HOUT.out _ HM.out
theorem plays14 (H : Bt A D N n K P P W) (hN : N ≤ W.heap.size) (hK : K + 3 ≤ 4611686018427387904) (hk0 : P.k ≤ 100000) {s : Opr} {a : Option Addr} {ca : Nat} (hs : OpOk W s a N) (hl : s.l.length ≤ 16777216) (hr : s.kind % 9 < 7) :
    Calls Try.prog 14 #[.pointer (some ⟨A.pb, 0, none⟩), .pointer (some ⟨D.qb, 0, none⟩), .agg #[.int .u8 s.kind, .int .i64 s.v, .slice a s.l.length ca]] W fun e w' => PlO A D N n (K + 2) (doP n P s) W e w' := by
  have h0 := hs.kind
  have : s.kind % 9 = 0 ∨ s.kind % 9 = 1 ∨ s.kind % 9 = 2 ∨ s.kind % 9 = 3 ∨ s.kind % 9 = 4 ∨ s.kind % 9 = 5 ∨ s.kind % 9 = 6 := by omega
  rcases this with h | h | h | h | h | h | h
  · exact plays14_0 H hN hK hk0 hs hl h
  · exact plays14_1 H hN hK hk0 hs hl h
  · exact plays14_2 H hN hK hk0 hs hl h
  · exact plays14_3 H hN hK hk0 hs hl h
  · exact plays14_4 H hN hK hk0 hs hl h
  · exact plays14_5 H hN hK hk0 hs hl h
  · exact plays14_6 H hN hK hk0 hs hl h
theorem dec_lt {P : Ph.St} {n : Nat} (s : Opr) : (doP n P s).k ≤ P.k + 1 := by
  unfold doP
  split
  · unfold Ph.sP; split <;> simp [Ph.save]
  · split
    · unfold Ph.rP; split <;> simp [Ph.reach]
    · split
      · simp [Ph.turn]
      · split <;> simp [draw]
end
end Go.Proofs.Ytkodfojccodoaaa
