/- The chapter's examples, as a call. -/
import Derived.Test.YtmgeoeajnpnadaaKn3
namespace Go.Proofs.Ytmgeoeajnpnadaa
open Go.RowKit
set_option linter.unusedVariables false
set_option linter.unusedSimpArgs false

theorem none14 (W : World) : Calls Try.prog 14 #[.slice none 0 0] W fun e w' => ∃ a c, e = .returned (.tuple #[.slice a 0 c, .int .i64 0, .int .i64 0]) ∧ Below W.heap.size W w' :=
  (good14 none 0 0 [] [] 0 rfl (Nat.le_refl _) (by decide) (by decide) (Bin.says_text (ss := []) rfl) rfl W W (Below.refl _ _) (Row.nil _ _ _ _ _)).mono fun e w' ⟨a, c, he, _, _, hb, _⟩ => ⟨a, c, he, hb⟩
/-- Wrong bytes behind a step's. -/
theorem wrong14 (x : List Int) (hx : x ∈ Bin.wrongs) (o : Option Addr) (k c : Nat) (W : World) (hk : 3 + x.length = k) (hl : k ≤ c) (hc : c ≤ 9223372036854775807) (h : Bts W o ([100, 0, 0] ++ x)) : Calls Try.prog 14 #[.slice o k c] W fun e w' => e = .returned (.tuple #[.slice none 0 0, .int .i64 50, .int .i64 3]) ∧ Below W.heap.size W w' := by
  obtain ⟨h1, h2, h3, h4⟩ := Bin.wrong_step x hx
  refine (bad14 o k c ([100, 0, 0] ++ x) [Bin.gd3] x 3 (by rw [← hk]; simp; omega) hl hc (by omega) (Bin.wrong_says x hx) h2 (by rw [Bin.pre_text]; rfl) W W (Below.refl _ _) h).mono fun e w' ⟨he, hb, _⟩ => ⟨he, hb⟩

/-- Wrong bytes put behind a step's, and read. -/
theorem wrongPut (W : World) (g : Nat) (X : List Int) (hX : X ∈ Bin.wrongs) (ln : Nat) (hln : X.length = ln) (h : Bts W (some ⟨g, 0, none⟩) X) : ∃ (o : Option Addr) (c : Nat) (B : World),
    (Builtin.append_ #[26, 26] 26 #[.slice (some ⟨W.heap.size, 0, none⟩) 3 3, .slice (some ⟨g, 0, none⟩) ln ln]).run Try.prog (W.alloc (.cells #[.int .u8 100, .int .u8 0, .int .u8 0] 5)) = .ok (.slice o (3 + ln) c) B ∧
    Calls Try.prog 14 #[.slice o (3 + ln) c] B fun e w' => e = .returned (.tuple #[.slice none 0 0, .int .i64 50, .int .i64 3]) ∧ Below W.heap.size W w' := by
  obtain ⟨h1, h2, h3, h4⟩ := Bin.wrong_step X hX
  obtain ⟨V, hV⟩ : ∃ V, W.alloc (.cells #[.int .u8 100, .int .u8 0, .int .u8 0] 5) = V := ⟨_, rfl⟩
  have hb : Below W.heap.size W V := by rw [← hV]; exact below_box _ _
  have hr : V.heap[W.heap.size]? = some (.cells (([100, 0, 0] : List Int).map (Value.int .u8)).toArray 5 (0, 0)) := by rw [← hV]; exact heap_alloc_new _ _
  have hl0 : 0 < ln := by
    rw [← hln]
    exact List.length_pos_iff.2 h2
  have hB := h.below hb
  have hsrc : ∀ j, j < ln → V.cell? ⟨g, 0 + j, none⟩ = some (.int .u8 (X.getD j 0)) := by
    rcases hB.2 with h0 | ⟨b, off, e, _, hc⟩
    · exact absurd h0 h2
    · cases e
      intro j hj
      exact hc j (by omega)
  have hlt : g < V.heap.size := cell_lt (hsrc 0 hl0)
  obtain ⟨o, c, B, r, ho, hkeep, hsz, e1, e2, e3⟩ := pushes (n := W.heap.size) (m := 3) (xs := [100, 0, 0]) rfl hln (own_lit V W.heap.size W.heap.size [100, 0, 0] (Nat.le_refl _) (by decide) hr) g 0 ln hsrc (by omega) hb.size hlt hl0
  have hVB : Below W.heap.size V B := ⟨e1, e2, e3, hsz, fun q hq => hkeep q (Nat.lt_of_lt_of_le hq hb.size) (fun e => by simp [Value.ownBlock] at e; omega)⟩
  rw [hV]
  refine ⟨o, c, B, r, ?_⟩
  have hlen : (([100, 0, 0] : List Int) ++ X).length = 3 + ln := by rw [List.length_append, hln]; rfl
  have hbt : Bts B o ([100, 0, 0] ++ X) := own_row (by rw [hlen]; exact ho) (fun x hx => by
    rcases List.mem_append.1 hx with hx | hx
    · have : Bin.Byt [100, 0, 0] := byt_list (by decide)
      have := this x hx; omega
    · have := h4 x hx; omega)
  have hcap : 3 + ln ≤ c ∧ c ≤ 9223372036854775807 := by
    rcases ho.2 with ⟨_, h0⟩ | ⟨g', cap, cur, e, _, _, k3, k4, _⟩
    · omega
    · cases e
      unfold maxLen at k4
      omega
  have hWB := hb.trans hVB
  exact (wrong14 X hX o (3 + ln) c B (by omega) hcap.1 hcap.2 hbt).mono fun e w' q => ⟨q.1, hWB.trans (q.2.mono hWB.size)⟩

set_option maxRecDepth 100000 in
set_option maxHeartbeats 8000000 in
theorem law7 (w : World) :
    Calls Try.prog 7 #[] w fun e w' => e = .returned (.bool true) ∧ Below w.heap.size w w' := by
  obtain ⟨A, hA, hAb, hAz, hAS⟩ := goodRow w
  obtain ⟨S, hS⟩ : ∃ S, strOfNums Bin.goodT = S := ⟨_, rfl⟩
  have K11 := hid ((write11 _ 4 4 _ A rfl (by decide) (by decide) hAS).mono (R' := fun e w' => ∃ o d, e = .returned (.tuple #[.slice o 51 d, .int .i64 0]) ∧ Bts w' o Bin.goodT ∧ Below A.heap.size A w') fun e w' r => by
    obtain ⟨o, d, he, hbt, _, _, hb⟩ := r.bts (q := 51) (er := 0) (by unfold Bin.out; rw [Bin.good_may, if_pos rfl, Bin.good_text]; rfl) (by unfold Bin.err; rw [Bin.good_may]; rfl)
    refine ⟨o, d, he, ?_, hb⟩
    unfold Bin.out at hbt
    rw [Bin.good_may, if_pos rfl, Bin.good_text] at hbt
    exact hbt)
  have HAB := hid hAb
  have HAS := hid hAS
  have C14 := hid (fun (W : World) (o : Option Addr) (c : Nat) (h : Bts W o Bin.goodT) (h1 : 51 ≤ c) (h2 : c ≤ 9223372036854775807) => good14 o 51 c Bin.goodT [Bin.gd0, Bin.gd1, Bin.gd2, Bin.gd3] 4 rfl h1 h2 (by decide) Bin.good_says rfl W W (Below.refl _ _) h)
  have C13 := hid (fun (W : World) (a b : Option Addr) (c d : Nat) (h1 : Steps W a [Bin.gd0, Bin.gd1, Bin.gd2, Bin.gd3]) (h2 : Steps W b [Bin.gd0, Bin.gd1, Bin.gd2, Bin.gd3]) => (same13 a b 4 c 4 d _ _ W rfl rfl (by decide) (by decide) h1 h2).mono (R' := fun e w' => e = .returned (.bool true) ∧ Below W.heap.size W w') fun e w' q => ⟨by rw [q.1]; simp, q.2⟩)
  have CV := hid (fun (W : World) (o : Option Addr) (c : Nat) (h : Bts W o Bin.goodT) => (show (convert 26 9 (.slice o 51 c)).run Try.prog W = .ok (.string S) W by rw [← hS]; exact to_str W o 51 c Bin.goodT h rfl))
  have heq : (S.toList == S.toList) = true := by simp
  clear hAb hAS hAz hS
  go_enter Try.func7, Try.ntmps7
  go_wp2_with (first
    | (go_at_call 11; refine K11.out.mono ?_; clear K11; rintro e W1 ⟨ob, db, rfl, hbt, hb⟩
       have HB1 := hid (HAB.out.trans (hb.mono HAB.out.size))
       have HBT := hid hbt
       have HAS1 := hid (HAS.out.below hb)
       obtain ⟨o1, c1, B1, o2, c2, B2, o3, c3, B3, o4, c4, B4, r1, r2, r3, r4, ht4, hc4, hm4, hb4⟩ := wantRow W1
       have HR1 := hid r1
       have HR2 := hid r2
       have HR3 := hid r3
       have HR4 := hid r4
       have K14 := hid (C14.out B4 o4 c4 ht4 hc4 hm4)
       have HT4 := hid ht4
       have HB4 := hid hb4
       clear hb hbt r1 r2 r3 r4 ht4 hc4 hm4 hb4 C14)
    | (at_builtin; refine wpList_append_run rfl (.tmp 42) (.tmp 43) 26 26 rfl rfl rfl HR1.out ?_; clear HR1)
    | (at_builtin; refine wpList_append_run rfl (.tmp 45) (.tmp 46) 26 26 rfl rfl rfl HR2.out ?_; clear HR2)
    | (at_builtin; refine wpList_append_run rfl (.tmp 48) (.tmp 49) 26 26 rfl rfl rfl HR3.out ?_; clear HR3)
    | (at_builtin; refine wpList_append_run rfl (.tmp 51) (.tmp 52) 26 26 rfl rfl rfl HR4.out ?_; clear HR4)
    | (go_at_call 14; refine K14.out.mono ?_; clear K14; rintro e W5 ⟨a5, c5, rfl, hs5, _, hx5, _⟩
       have hb15 := HB4.out.trans (hx5.mono HB4.out.size)
       have HB5 := hid (HB1.out.trans (hb15.mono HB1.out.size))
       have HS5 := hid hs5
       have HAS5 := hid (HAS1.out.below hb15)
       have cv1 := CV.out W5 ob db (HBT.out.below hb15)
       have cv2 := CV.out W5 o4 c4 (HT4.out.below hx5)
       clear hs5 hx5 hb15)
    | (go_at_call 13; refine (C13.out _ _ _ _ _ HS5.out HAS5.out).mono ?_; clear C13; rintro e W6 ⟨rfl, hb6⟩
       have HB6 := hid (HB5.out.trans (hb6.mono HB5.out.size))
       have HAS6 := hid (HAS5.out.below hb6)
       obtain ⟨B, hB, hBb, hBz, hBS⟩ := badRow W6
       have HBB := hid hBb
       have HBS := hid hBS
       clear hb6 hBb hBS hBz))
  have HAX := hid (show Steps B (some ⟨w.heap.size + 1 + 1 + 1 + 1, 0, none⟩) [Bin.gd0, Bin.gd1, Bin.gd2, Bin.gd3] from HAS6.out.below HBB.out)
  have HBW := hid (show Below w.heap.size w B from HB6.out.trans (HBB.out.mono HB6.out.size))
  clear hA hB HAS HAB HB1 HBB HAS1 HAS5 HAS6 HS5 HB5 HB6 HT4 HB4 HBT cv1 cv2 CV
  generalize W6.heap.size + 1 + 1 + 1 + 1 + 1 + 1 = gB at HBS ⊢
  generalize w.heap.size + 1 + 1 + 1 + 1 = gA at HAX ⊢
  go_loopw [10] (fun iv wr => ∃ k : Nat, iv = .int .i64 k ∧ k ≤ 11 ∧ Hid (Below B.heap.size B wr)) (fun iv _ => 11 - (intOf iv).toNat)
  case atStart => exact ⟨0, rfl, by omega, hid (Below.refl _ _)⟩
  case round =>
    obtain ⟨k, rfl, hk, HD⟩ := hrel
    by_cases hlt : k < 11
    · have hlt' : (k : Int) < 11 := by omega
      have hks : k < Bin.bads.length := hlt
      obtain ⟨b1, d1, b2, d2, hst⟩ := (HBS.out.below HD.out).at (j := k) hks
      obtain ⟨a1, e1, a2, e2, hgt⟩ := (HAX.out.below HD.out).at (j := 0) (by decide)
      have hgt' : StC wr gA 0 Bin.gd0 a1 e1 a2 e2 := hgt
      rw [Nat.zero_add] at hst
      have hmem := List.getElem_mem hks
      have hm2 := Bin.bads_two _ hmem
      have hsm := Bin.bads_small _ hmem
      generalize Bin.bads[k] = t at hst hm2 hsm
      have hitm : Lra.items [Bin.gd0, t] ≤ 1000000 := by
        rw [Lra.items_cons, Lra.items_cons, Lra.items_nil]
        have : Bin.gd0.lits.length + Bin.gd0.hints.length = 1 := rfl
        omega
      obtain ⟨x0, x1, x2, x3, hv⟩ := hgt'
      obtain ⟨y0, y1, y2, y3, hu⟩ := hst
      have C := two11 wr.drew Bin.gd0 t a1 e1 a2 e2 b1 d1 b2 d2 (hv.below (Below.refl _ _).drew) (hu.below (Below.refl _ _).drew) hitm hm2
      have hS : ∀ W, Below wr.heap.size wr W → Below wr.heap.size wr W ∧ W.cell? ⟨gA, 0, none⟩ = some (.int .u8 2) ∧ W.cell? ⟨gA, 1, none⟩ = some (.int .i64 64) ∧ W.cell? ⟨gA, 2, none⟩ = some (.slice a1 0 e1) ∧ W.cell? ⟨gA, 3, none⟩ = some (.slice a2 1 e2) ∧
          W.cell? ⟨gB, k * 4, none⟩ = some (.int .u8 t.kind) ∧ W.cell? ⟨gB, k * 4 + 1, none⟩ = some (.int .i64 t.id) ∧ W.cell? ⟨gB, k * 4 + 2, none⟩ = some (.slice b1 t.lits.length d1) ∧ W.cell? ⟨gB, k * 4 + 3, none⟩ = some (.slice b2 t.hints.length d2) := fun W h =>
        ⟨h, (h.cell (p := ⟨gA, 0, none⟩) (cell_lt x0)).trans x0, (h.cell (p := ⟨gA, 1, none⟩) (cell_lt x0)).trans x1, (h.cell (p := ⟨gA, 2, none⟩) (cell_lt x0)).trans x2, (h.cell (p := ⟨gA, 3, none⟩) (cell_lt x0)).trans x3,
         (h.cell (p := ⟨gB, k * 4, none⟩) (cell_lt y0)).trans y0, (h.cell (p := ⟨gB, k * 4 + 1, none⟩) (cell_lt y0)).trans y1, (h.cell (p := ⟨gB, k * 4 + 2, none⟩) (cell_lt y0)).trans y2, (h.cell (p := ⟨gB, k * 4 + 3, none⟩) (cell_lt y0)).trans y3⟩
      generalize t.lits.length = n3 at hS C
      generalize t.hints.length = n4 at hS C
      generalize t.kind = uk at hS C
      generalize t.id = ui at hS C
      have C' : Calls Try.prog 11 #[.slice (some ⟨wr.heap.size, 0, none⟩) 2 2] (wr.drew.alloc (.cells #[.int .u8 2, .int .i64 64, .slice a1 0 e1, .slice a2 1 e2, .int .u8 uk, .int .i64 ui, .slice b1 n3 d1, .slice b2 n4 d2] 43)) fun e w' => e = .returned (.tuple #[.slice none 0 0, .int .i64 50]) ∧ Below wr.heap.size wr w' := C.mono fun e w' q => ⟨q.1, (Below.refl _ wr).drew.trans q.2⟩
      have CC := hid C'
      clear x0 x1 x2 x3 y0 y1 y2 y3 hv hu C C' hgt hm2 hsm hmem hitm hks
      obtain ⟨_, x0, x1, x2, x3, y0, y1, y2, y3⟩ := hS wr (Below.refl _ _)
      have HST := hid hS
      have KK := hid (hS wr.drew (Below.refl _ _).drew)
      clear hS
      go_wp2
      go_region_held3 (fun W => Below wr.heap.size wr W ∧ W.cell? ⟨gA, 0, none⟩ = some (.int .u8 2) ∧ W.cell? ⟨gA, 1, none⟩ = some (.int .i64 64) ∧ W.cell? ⟨gA, 2, none⟩ = some (.slice a1 0 e1) ∧ W.cell? ⟨gA, 3, none⟩ = some (.slice a2 1 e2) ∧
          W.cell? ⟨gB, k * 4, none⟩ = some (.int .u8 uk) ∧ W.cell? ⟨gB, k * 4 + 1, none⟩ = some (.int .i64 ui) ∧ W.cell? ⟨gB, k * 4 + 2, none⟩ = some (.slice b1 n3 d1) ∧ W.cell? ⟨gB, k * 4 + 3, none⟩ = some (.slice b2 n4 d2))
        (first | exact KK.out | exact HST.out _ hb8 | exact HST.out _ ((Below.refl _ _).drew.alloc (Nat.le_refl _) _))
        (first | (go_at_call 11; refine CC.out.mono ?_; rintro e w8 ⟨rfl, hb8⟩))
      have HB8 := hid (HD.out.trans (hb8.mono HD.out.size))
      clear hb8 KK HST CC
      go_wp2
      go_roundw
      case rel => exact ⟨k + 1, by go_num, by omega, HB8⟩
      case measure => simp [intOf]; omega
    · have hlt' : ¬ (k : Int) < 11 := by omega
      obtain ⟨Z, hZ, hZb, hZr⟩ := wrongRow wr
      have HZR := hid hZr
      have HZW := hid (show Below w.heap.size w Z from HBW.out.trans ((HD.out.trans (hZb.mono HD.out.size)).mono HBW.out.size))
      clear hZr hZb
      go_wp2
      generalize wr.heap.size + 1 + 1 + 1 + 1 + 1 + 1 + 1 + 1 + 1 + 1 + 1 + 1 + 1 + 1 + 1 + 1 = gZ at HZR ⊢
      clear hZ HBS HAX HBW
      go_loopw [14] (fun iv wr => ∃ k : Nat, iv = .int .i64 k ∧ k ≤ 16 ∧ Hid (Below Z.heap.size Z wr)) (fun iv _ => 16 - (intOf iv).toNat)
      case atStart => exact ⟨0, rfl, by omega, hid (Below.refl _ _)⟩
      case round =>
        clear HD hlt hlt' hk
        obtain ⟨q, rfl, hq, HD⟩ := hrel
        by_cases hql : q < 16
        · have hql' : (q : Int) < 16 := by omega
          have hqs : q < Bin.wrongs.length := hql
          obtain ⟨g, hx, hbt⟩ := HZR.out q hqs
          have hmem := List.getElem_mem hqs
          have hxx := (HD.out.cell (p := ⟨gZ, q, none⟩) (cell_lt hx)).trans hx
          have hsz := (Bin.wrong_step _ hmem).2.2.1
          have hbt2 := hbt.below HD.out
          generalize Bin.wrongs[q] = X at hxx hbt2 hmem hsz
          obtain ⟨ln, hln⟩ : ∃ ln, X.length = ln := ⟨_, rfl⟩
          rw [hln] at hxx
          obtain ⟨o3, c3, B3, r3, k3⟩ := wrongPut wr g X hmem ln hln hbt2
          have HAP := hid r3
          have K14 := hid k3
          have hxa : (wr.alloc (.cells #[.int .u8 100, .int .u8 0, .int .u8 0] 5)).cell? ⟨gZ, q, none⟩ = some (.slice (some ⟨g, 0, none⟩) ln ln) := (World.cell?_of_block (w := wr) (a := ⟨gZ, q, none⟩) ((below_box wr _).block _ (cell_lt hxx))).trans hxx
          clear hx hqs hbt hbt2 hmem r3 k3 hsz hln
          go_wp2_with (first
            | (at_builtin; refine wpList_append_run rfl (.tmp 150) (.tmp 154) 26 26 rfl rfl rfl HAP.out ?_; clear HAP)
            | (go_at_call 14; refine K14.out.mono ?_; clear K14; rintro e W5 ⟨rfl, hb5⟩; have HB5 := hid (HD.out.trans (hb5.mono HD.out.size)); clear hb5))
          go_roundw
          case rel => exact ⟨q + 1, by go_num, by omega, HB5⟩
          case measure => simp [intOf]; omega
        · have hql' : ¬ (q : Int) < 16 := by omega
          obtain ⟨nL, mL, hnL, MKL⟩ := makeL
          obtain ⟨nH, mH, hnH, hmH, hcH, MKH⟩ := makeH
          have HNL := hid hnL
          have HNH := hid hnH
          have HCH := hid hcH
          clear hnL hnH hmH hcH hql hq
          go_wp2_with (first
            | (go_at_call 14; refine (none14 _).mono ?_; rintro e W6 ⟨a6, c6, rfl, hb6⟩; have HB6 := hid (HD.out.trans (hb6.mono HD.out.size)); clear hb6)
            | (go_at_call 11; refine (lim11 _ _ _ _ (long17 _ _ _ _ (by rw [HNL.out]; decide) (by rw [HNL.out]; decide))).mono ?_; clear HNL; rintro e W7 ⟨rfl, hb7⟩
               have HB7 := hid (show Below Z.heap.size Z W7 from HB6.out.trans ((box_below _ _ hb7).mono HB6.out.size)); clear hb7
               obtain ⟨Y, hY⟩ : ∃ Y, (W7.alloc (.cells mH 2)).alloc (.cells #[.int .u8 0, .int .i64 0, .slice none 0 0, .slice (some ⟨W7.heap.size, 0, none⟩) nH nH] 43) = Y := ⟨_, rfl⟩
               have hY0 : Y.heap[W7.heap.size]? = some (.cells mH 2 (0, 0)) := by rw [← hY, alloc_at, if_neg (by simp only [World.size_alloc]; omega), alloc_at, if_pos rfl]
               have hY1 : Y.heap[W7.heap.size + 1]? = some (.cells #[.int .u8 0, .int .i64 0, .slice none 0 0, .slice (some ⟨W7.heap.size, 0, none⟩) nH nH] 43 (0, 0)) := by rw [← hY, alloc_at, if_pos (by simp only [World.size_alloc])]
               have C8 := hid (big11 Y _ _ nH 1 mH HNH.out HCH.out hY1 hY0)
               have HY := hid (show Below Z.heap.size Z Y from by
                 rw [← hY]
                 exact (HB7.out.alloc HB7.out.size _).alloc (by simp; have := HB7.out.size; omega) _)
               clear hY0 hY1)
            | (go_at_call 11; refine C8.out.mono ?_; clear C8; rintro e W8 ⟨rfl, hb8⟩; have HB8 := hid (HY.out.trans (hb8.mono HY.out.size)); clear hb8)
            | (go_at_call 9; refine (works9 _).mono ?_; rintro e W9 ⟨rfl, hb9⟩; have HB9 := hid (HB8.out.trans (hb9.mono HB8.out.size)); clear hb9))
          go_ret
          exact ⟨rfl, HZW.out.trans (HB9.out.mono HZW.out.size)⟩
end Go.Proofs.Ytmgeoeajnpnadaa
