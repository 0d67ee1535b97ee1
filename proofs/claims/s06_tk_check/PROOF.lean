import PyProof.Rows.All
import Wide.All
import OpenK.AllK
import Wide.FinOn
import PyProof.EqAt
import PyProof.EqKinds
import PyProof.TupleCall
import KE.BitLaws
import Open.SpecLaws
import KE.OsHead
import KE.OsGo
import PySem.Challenge.RW_tokenpass_s06_tk_check
set_option Elab.async false
set_option linter.all false
set_option maxRecDepth 100000
set_option maxHeartbeats 4000000
namespace PySem.W.Fast
def tw10084109603238052984:=0
def tw1009414539922581751:=0
def tw10143103116763855276:=0
def tw10252083903331845101:=0
def tw10285571198055520173:=0
def tw10286608503558981269:=0
def tw10288874532095248036:=0
def tw10289025792843428399:=0
def tw10305836222585201204:=0
def tw10320011053666061892:=0
def tw10365193151053144101:=0
def tw10370345710449207580:=0
def tw10376229633684142293:=0
def tw10392202825923154367:=0
def tw10408015988948938492:=0
def tw10444795255961461631:=0
def tw10464990021618141304:=0
def tw10470727189207346301:=0
def tw10540309679331246502:=0
def tw10630015877137697237:=0
def tw10649894371177371219:=0
def tw1071447065590689248:=0
def tw10722817165016460825:=0
def tw10723670117527775148:=0
def tw10761387895910367800:=0
def tw10769481431325524982:=0
def tw10792420066289063552:=0
def tw108610061668328864:=0
def tw1087565330894158074:=0
def tw10953643493970980195:=0
def tw10976125846389316037:=0
def tw10979178502005659593:=0
def tw11015127628633949160:=0
def tw11054035491276995463:=0
def tw11075843122856024672:=0
def tw11089950296468685054:=0
def tw11100360923554990281:=0
def tw11110464938711517231:=0
def tw11143296502777916504:=0
def tw11219579835539504827:=0
def tw11225936678509429578:=0
def tw11231285759760301515:=0
def tw11278258135146973672:=0
def tw11292464415107769145:=0
def tw11348539419260992843:=0
def tw11355555083183625415:=0
def tw11421283668614257345:=0
def tw11435472336674027702:=0
def tw11460804121627116880:=0
def tw11471853015852771484:=0
def tw11497720181162026596:=0
def tw11502734577585775725:=0
def tw11503359365741752013:=0
def tw11585841514171497398:=0
def tw116168034569600533:=0
def tw11637848305043319720:=0
def tw11655207458552940644:=0
def tw11706941820788227090:=0
def tw11777407563823200562:=0
def tw11782380668101048735:=0
def tw11803159179767786734:=0
def tw11831810978323892873:=0
def tw11839212526993232409:=0
def tw11860866486768952255:=0
def tw11873751286768005525:=0
def tw11899643239275315954:=0
def tw11970300762352065985:=0
def tw11999134039255836153:=0
def tw12018653710226750514:=0
def tw12033898146089557246:=0
def tw12077456306396839480:=0
def tw12089303889925332156:=0
def tw12158241956961242734:=0
def tw12165287776720744964:=0
def tw12217646092489866492:=0
def tw12291549759205643269:=0
def tw12341440642343173651:=0
def tw12348474067904443103:=0
def tw12359895770984098782:=0
def tw12501260269708383901:=0
def tw12504055503851766319:=0
def tw12519647510856458405:=0
def tw12545594791393925651:=0
def tw12551178204479186480:=0
def tw12554838265401154242:=0
def tw1256895976996310339:=0
def tw12583118334108399565:=0
def tw1259024219045836046:=0
def tw1262091678627681745:=0
def tw12640470532923867947:=0
def tw12706815445873480081:=0
def tw12717774368452229844:=0
def tw12763561749351790051:=0
def tw12788133165724124738:=0
def tw12879310387176819227:=0
def tw12886279086040513807:=0
def tw12892377752497511576:=0
def tw12938635504144739654:=0
def tw12987488656407683118:=0
def tw13004519677403202892:=0
def tw13006929254745118081:=0
def tw13063025824680265153:=0
def tw13106632468196681426:=0
def tw13147587696036393019:=0
def tw13159732956923327517:=0
def tw13176068564721662368:=0
def tw13229727368502843819:=0
def tw13269870336754404244:=0
def tw13286075265230592274:=0
def tw13310661798627703322:=0
def tw13311464880502892808:=0
def tw13375028024942761264:=0
def tw13404816555547813364:=0
def tw13417410882329584928:=0
def tw13435381262739808561:=0
def tw13480088587682776009:=0
def tw13498849887381415616:=0
def tw13524446676350089678:=0
def tw13539822862795946500:=0
def tw13587738428129268184:=0
def tw13616229006230436771:=0
def tw13634283996655976155:=0
def tw13682631664058259119:=0
def tw13716040414064020022:=0
def tw13721215775397620835:=0
def tw13726331094424877673:=0
def tw13742160021823036025:=0
def tw13764327932824809904:=0
def tw13800948432343948119:=0
def tw13826445039136340372:=0
def tw13903602317203636203:=0
def tw13923883800611979207:=0
def tw13930382153179331582:=0
def tw1394883818729709612:=0
def tw13963882374357885817:=0
def tw14016286750971512026:=0
def tw14170124652591259558:=0
def tw14254222094964520571:=0
def tw14280632882234593085:=0
def tw14289341185005187162:=0
def tw14317873707978660863:=0
def tw14414870512933857802:=0
def tw14447893279532066762:=0
def tw1445831546039352066:=0
def tw1447561767591982319:=0
def tw14495075363293270766:=0
def tw14513195102175164552:=0
def tw14518272394361261780:=0
def tw14548814195990393250:=0
def tw14622533985878710857:=0
def tw146816163462061729:=0
def tw14717915417123802174:=0
def tw14724862851986308013:=0
def tw14738903707009781109:=0
def tw14747704745976097193:=0
def tw14772192148185585008:=0
def tw14772302850608364433:=0
def tw1477859380453406475:=0
def tw14824433637908997123:=0
def tw14826891860182973582:=0
def tw14845124194353856006:=0
def tw14868295808779657923:=0
def tw14878390288920924540:=0
def tw14919070313148349273:=0
def tw14957671594278886763:=0
def tw14983211569583690947:=0
def tw1500428488974810692:=0
def tw15007158756712853739:=0
def tw15032440560553541506:=0
def tw1505253403533040719:=0
def tw15118773468966484236:=0
def tw15125181792440331248:=0
def tw15139476790527577364:=0
def tw15157919820422912854:=0
def tw1519148734671663477:=0
def tw15200884001751670538:=0
def tw1523019764151095204:=0
def tw15248680680293205111:=0
def tw1525041900366865525:=0
def tw15263682759009309261:=0
def tw15277867719224225100:=0
def tw15322330780605763337:=0
def tw15337163565706735649:=0
def tw15453876804697824889:=0
def tw15522673772679562121:=0
def tw15525237878505848089:=0
def tw15561188876701816953:=0
def tw1561421703037843420:=0
def tw15627752646393260594:=0
def tw15659065499508874921:=0
def tw15676285263395513671:=0
def tw15699746444794684637:=0
def tw15707495481473041706:=0
def tw15753695387041140235:=0
def tw15757495564103181401:=0
def tw15757959887608950738:=0
def tw15761568756201512278:=0
def tw15779796928289447483:=0
def tw15801553781679386839:=0
def tw15805255099553827883:=0
def tw15838407894014762883:=0
def tw15860242275300593365:=0
def tw15955570301560743883:=0
def tw15996152766625128058:=0
def tw1601043701943362678:=0
def tw16059374346010480533:=0
def tw16109614641063629933:=0
def tw1623880391800542307:=0
def tw1628509033801900113:=0
def tw16292278445184278126:=0
def tw1631935647740595791:=0
def tw16321210097005159473:=0
def tw16323384879247429199:=0
def tw16348413004395407866:=0
def tw16364466317339848369:=0
def tw16373596556831232197:=0
def tw16426855231760333599:=0
def tw16560045941930337892:=0
def tw16604567091425196628:=0
def tw16655722108661416812:=0
def tw16718563821756368730:=0
def tw16770476491378153796:=0
def tw16775908857258993182:=0
def tw16807000200009806066:=0
def tw16816908951684843280:=0
def tw16850786887287127123:=0
def tw1689664294692803251:=0
def tw16927372287749818388:=0
def tw16944364263236006360:=0
def tw17008830845784616411:=0
def tw17027877505602146226:=0
def tw17039032620561778138:=0
def tw17050502060671763738:=0
def tw17074480823318324093:=0
def tw17095828021480739666:=0
def tw17171573743159867828:=0
def tw17183157430489378956:=0
def tw17231469569216106696:=0
def tw17282741866390694424:=0
def tw17306943287355238263:=0
def tw17330359073058970712:=0
def tw17360442429517153942:=0
def tw17383050496254223711:=0
def tw17466328748019241772:=0
def tw17480622007995871852:=0
def tw17481475984646265823:=0
def tw17481994737779138349:=0
def tw17547831286028823917:=0
def tw1757266836131090619:=0
def tw17618615750732947552:=0
def tw1764343193353228790:=0
def tw17664615717046217273:=0
def tw17731751491885411511:=0
def tw17794314452338703372:=0
def tw17888247192195008167:=0
def tw17890578936871289793:=0
def tw17931560298650855480:=0
def tw17936476991978517572:=0
def tw17950152919163072846:=0
def tw17980430512253089948:=0
def tw17998181906551659290:=0
def tw17999580097012375831:=0
def tw18009241149215496322:=0
def tw1802320986300691165:=0
def tw18033354401574474469:=0
def tw18055468273550313275:=0
def tw18057020991360641630:=0
def tw1805969968111826927:=0
def tw18077771762814029492:=0
def tw18163092747956846183:=0
def tw18177659597636776620:=0
def tw18187136670337972186:=0
def tw18346977176075620471:=0
def tw183840840344714646:=0
def tw18402336003268798383:=0
def tw1841629628666136697:=0
def tw184673129387137798:=0
def tw1887773145110884632:=0
def tw1889348096878709499:=0
def tw1951120473599647914:=0
def tw1963420773407703901:=0
def tw1976459900025571463:=0
def tw2027865762474537664:=0
def tw2045661081558146245:=0
def tw206785613944822492:=0
def tw2165408091559075211:=0
def tw2190313045423675444:=0
def tw2194678259042758386:=0
def tw2207311672524191997:=0
def tw2227568243861012023:=0
def tw2250854642633905361:=0
def tw2341870495649158946:=0
def tw2422361350377134252:=0
def tw2424335788029081462:=0
def tw2461997263208606743:=0
def tw2496851204969680436:=0
def tw2651191599870364854:=0
def tw2662214721392784874:=0
def tw2731222096383635025:=0
def tw2752257499883488149:=0
def tw2766617858359825076:=0
def tw2771477344131348299:=0
def tw2826231140752166732:=0
def tw2847258200622197280:=0
def tw2868808999900434327:=0
def tw2899225158785550969:=0
def tw300673770222360591:=0
def tw3024873583116841564:=0
def tw3063341514106157409:=0
def tw3180777346255176666:=0
def tw3187344142429143736:=0
def tw3189281245934097355:=0
def tw3193719079300829500:=0
def tw3280139664872925952:=0
def tw3310540923529656828:=0
def tw3382397560613141075:=0
def tw3386870157263503931:=0
def tw3416959567891840214:=0
def tw3430704663351182209:=0
def tw3435449839843726140:=0
def tw3442637103442994009:=0
def tw3508205724557721787:=0
def tw3534189099670180733:=0
def tw3539499346866613709:=0
def tw353961595337060968:=0
def tw3540214483611780106:=0
def tw3545154296093368369:=0
def tw3568878487893879817:=0
def tw3579028761202863815:=0
def tw3585648994927158632:=0
def tw3665537123990249307:=0
def tw3702087459919441733:=0
def tw3716565609593849314:=0
def tw3783304259151753289:=0
def tw3859043549043634998:=0
def tw3881959365888694872:=0
def tw391222879020030475:=0
def tw3973945550832522217:=0
def tw4017144609516167363:=0
def tw4102757832550277353:=0
def tw4197978578155066871:=0
def tw4220999217499115018:=0
def tw4256485193671336177:=0
def tw4282693929717049376:=0
def tw4283409138594225509:=0
def tw430081031070103189:=0
def tw4323404350206022207:=0
def tw4326228723247502615:=0
def tw4365565496981765916:=0
def tw4422714723697124338:=0
def tw4482943389476628171:=0
def tw4491669356687103953:=0
def tw4501326055026040287:=0
def tw4524295545277736158:=0
def tw4539589807833534582:=0
def tw4549870081749610942:=0
def tw4578509733807888401:=0
def tw4585464259003325826:=0
def tw4672720414261329958:=0
def tw4827918410031928922:=0
def tw4838546841787340620:=0
def tw4949032428592039529:=0
def tw4953796346394374249:=0
def tw4987301598194880559:=0
def tw5001787395873553928:=0
def tw5006147843762103293:=0
def tw5026382742881695435:=0
def tw5030790304461477777:=0
def tw5032623061840425440:=0
def tw5056623536880541340:=0
def tw5070738936077668930:=0
def tw5083188770847947815:=0
def tw5121946799873880694:=0
def tw5126479754927692873:=0
def tw5162675900450159779:=0
def tw5202085820317649533:=0
def tw5265937964365161000:=0
def tw5287798511478189584:=0
def tw5347217585506032746:=0
def tw5386411064080702853:=0
def tw5435822842899949783:=0
def tw5448205553318719916:=0
def tw5461891576033622626:=0
def tw5477315466102938656:=0
def tw5522435148063066157:=0
def tw554028507325427840:=0
def tw5574359758918284211:=0
def tw5614729619768383679:=0
def tw5644291601439745280:=0
def tw5661395110769994013:=0
def tw5662607529066739745:=0
def tw5670197886893382102:=0
def tw5685294008536376244:=0
def tw5687787658032776884:=0
def tw5695312427474717393:=0
def tw571371808994172308:=0
def tw5715037119737541546:=0
def tw57338547769811750:=0
def tw5788637353005778179:=0
def tw5791332098379301435:=0
def tw5793699486178581894:=0
def tw5802161612539568665:=0
def tw580771156110512362:=0
def tw5816483494584684576:=0
def tw5838301977164318991:=0
def tw5844724863626919349:=0
def tw5854590216463286361:=0
def tw5884173704638116619:=0
def tw5886041026590217623:=0
def tw5959562649376162784:=0
def tw6002587526776813536:=0
def tw6010175192021166746:=0
def tw6051870115461045435:=0
def tw6097791051752358988:=0
def tw6129831779101636779:=0
def tw6137663173981650707:=0
def tw6169325204257240576:=0
def tw6171987928947912624:=0
def tw617230069375909789:=0
def tw6259902482286398267:=0
def tw6333297047632932626:=0
def tw6366926637366478979:=0
def tw6373917648935189919:=0
def tw6422732754986422762:=0
def tw6425633418374164535:=0
def tw6432686874562723255:=0
def tw643451118875781962:=0
def tw6474315299900747162:=0
def tw6529450384255447681:=0
def tw6579354645733719078:=0
def tw6603617958878813973:=0
def tw6620914473499429498:=0
def tw6677942628169545717:=0
def tw6698215984960055488:=0
def tw6735036683646038938:=0
def tw6795626480330266748:=0
def tw6802248078584865766:=0
def tw68195412678052249:=0
def tw6822284971199009756:=0
def tw6833300408693219718:=0
def tw6848964940027382018:=0
def tw6882678266194563442:=0
def tw6899017635940841739:=0
def tw6942443550943576743:=0
def tw6949435700211624606:=0
def tw6953679889402800287:=0
def tw7013199264706268786:=0
def tw7032696729060871047:=0
def tw7056962600406323605:=0
def tw7093704785741334001:=0
def tw7100639940297111245:=0
def tw7217296955716344548:=0
def tw7263580572757686837:=0
def tw7264956762689108637:=0
def tw7291685640550996130:=0
def tw7360851488875666892:=0
def tw74439607331242230:=0
def tw7605321987665877858:=0
def tw7640653246070277274:=0
def tw7697136891547367558:=0
def tw7723707168249909122:=0
def tw772965390859660090:=0
def tw7740518869699887829:=0
def tw7784154613510227580:=0
def tw790376075447486794:=0
def tw7923991505298383770:=0
def tw8042742515497700073:=0
def tw8256332838330836751:=0
def tw8258275764040549683:=0
def tw8304809253716284968:=0
def tw8351456850287727562:=0
def tw8360442405595626100:=0
def tw8419534894327188186:=0
def tw8430798262489508730:=0
def tw847935667602926984:=0
def tw8481599178223499929:=0
def tw8499845564106471387:=0
def tw8525794555491760778:=0
def tw8574153674904288545:=0
def tw8602850065595175371:=0
def tw8641374231330177327:=0
def tw86487398220160806:=0
def tw8717465674679614998:=0
def tw8732131319383464525:=0
def tw8734172189396173015:=0
def tw8740088998157652445:=0
def tw8751637055211084068:=0
def tw8818713942679026213:=0
def tw8827463539251679423:=0
def tw8843682767888483717:=0
def tw8872488618014593046:=0
def tw8885955441295142877:=0
def tw8898751333201237200:=0
def tw8924455992927183969:=0
def tw8956803373931017494:=0
def tw8981639750952612655:=0
def tw898750224958963588:=0
def tw9131080812284559103:=0
def tw9159296073399823273:=0
def tw9162298027731683615:=0
def tw9205406337397058827:=0
def tw9205656125671243060:=0
def tw9259845530628064385:=0
def tw9359956258742827213:=0
def tw9364777689970147540:=0
def tw9386609187022566137:=0
def tw9389961122550827552:=0
def tw9425150841078770540:=0
def tw9452966274913098275:=0
def tw9497711543243510284:=0
def tw9520583814914920017:=0
def tw9540461919159035717:=0
def tw954900587968908493:=0
def tw9574270221029283273:=0
def tw9594029733113818383:=0
def tw9648785296489545043:=0
def tw9653752427434707900:=0
def tw9666820294501102889:=0
def tw9739303326033823464:=0
def tw9781975290184202404:=0
def tw9813714486819140448:=0
def tw9845164103463336277:=0
def tw9855927677235053631:=0
def tw9872672836470847070:=0
def tw9931313467581943877:=0
end PySem.W.Fast
namespace L2
open PySem PySem.Spec PyProof.Rows
abbrev Key := Sum Int Str
def keyIs : Key -> Value -> Bool
  | .inl k, v => Value.isInt k v
  | .inr x, v => Value.isStrOf x v
def keyH (w : World) : Key -> Int
  | .inl k => hashInt k
  | .inr x => hashStr w x
theorem Q6 : ∀ {k : Key} {v : Value}, keyIs k v = true -> (∃ i t, k = Sum.inl i /\ v = Value.int i t) \/ (∃ x t, k = Sum.inr x /\ v = Value.str x t)
  | .inl i, v, h => by
    obtain ⟨t, e⟩ := Value.isInt_shape (k := i) (v := v) h;exact .inl ⟨i, t, rfl, e⟩
  | .inr x, v, h => by
    obtain ⟨t, e⟩ := Value.isStrOf_shape (x := x) (v := v) h;exact .inr ⟨x, t, rfl, e⟩
theorem keyIs_int (i : Int) (t : Tok) : keyIs (.inl i) (.int i t) = true := by simp [keyIs, Value.isInt]
theorem keyIs_str (x : Str) (t : Tok) : keyIs (.inr x) (.str x t) = true := by simp [keyIs, Value.isStrOf]
theorem key_ll (a b : Int) : decide ((Sum.inl a : Key) = Sum.inl b) = (a == b) := by
  by_cases e : a = b
  · subst e; simp
  · have h : ¬ (Sum.inl a : Key) = Sum.inl b := fun q => e (Sum.inl.inj q)
    rw [decide_eq_false h];exact (beq_eq_false_iff_ne.mpr e).symm
theorem key_rr (a b : Str) : decide ((Sum.inr a : Key) = Sum.inr b) = decide (a = b) := by
  by_cases e : a = b
  · subst e; simp
  · have h : ¬ (Sum.inr a : Key) = Sum.inr b := fun q => e (Sum.inr.inj q)
    rw [decide_eq_false h, decide_eq_false e]
theorem key_lr (a : Int) (b : Str) : decide ((Sum.inl a : Key) = Sum.inr b) = false := decide_eq_false (fun q => nomatch q)
theorem key_rl (a : Str) (b : Int) : decide ((Sum.inr a : Key) = Sum.inl b) = false := decide_eq_false (fun q => nomatch q)
def x4 (prog : Program) (w : World) : PySem.KeyKind prog w Key where
  is := keyIs
  hash := keyH w
  inj := fun v a b ha hb => by
    rcases Q6 ha with ⟨i, t, rfl, rfl⟩ | ⟨x, t, rfl, rfl⟩
    · rcases Q6 hb with ⟨j, u, rfl, e⟩ | ⟨y, u, rfl, e⟩
      · injection e with e1 _; rw [e1]
      · exact nomatch e
    · rcases Q6 hb with ⟨j, u, rfl, e⟩ | ⟨y, u, rfl, e⟩
      · exact nomatch e
      · injection e with e1 _; rw [e1]
  byValue := fun k v h => by
    rcases Q6 h with ⟨i, t, rfl, rfl⟩ | ⟨x, t, rfl, rfl⟩ <;> rfl
  pyHash := fun hv h => by
    rcases Q6 hv with ⟨i, t, rfl, rfl⟩ | ⟨x, t, rfl, rfl⟩
    · exact wpAny_pyHash_int h
    · exact wpAny_pyHash_str h
  eqBool := fun hu hv h => by
    rcases Q6 hu with ⟨i, t, rfl, rfl⟩ | ⟨x, t, rfl, rfl⟩
    · rcases Q6 hv with ⟨j, u, rfl, rfl⟩ | ⟨y, u, rfl, rfl⟩
      · rw [key_ll] at h; exact wpAny_eqBool_int h
      · rw [key_lr] at h; exact SeqAt.EqAt.int_str i t y u _ _ _ _ h
    · rcases Q6 hv with ⟨j, u, rfl, rfl⟩ | ⟨y, u, rfl, rfl⟩
      · rw [key_rl] at h; exact SeqAt.EqAt.str_int x t j u _ _ _ _ h
      · rw [key_rr] at h; exact wpAny_eqBool_str h
  «strs» := fun k x t v h => by
    rcases Q6 h with ⟨i, u, rfl, e⟩ | ⟨y, u, rfl, e⟩
    · exact nomatch e
    · injection e with e1 _
      subst e1;cases v <;> rfl
theorem Z4 (prog : Program) (w : World) (i : Int) (t : Tok) : (x4 prog w).is (.inl i) (.int i t) = true := keyIs_int i t
theorem mixKind_str (prog : Program) (w : World) (x : Str) (t : Tok) : (x4 prog w).is (.inr x) (.str x t) = true := keyIs_str x t
end L2
namespace L2
open PySem PySem.Spec PyProof.Rows
inductive V where
  | non | bl (b : Bool) | int (i : Int) | str (x : Str) | byt (b : Array UInt8) | flt (b : UInt64) | ref (a : Addr) | ty (n : String)
  deriving DecidableEq
def RelV : V -> Value -> Prop
  | .non, u => u = Value.none
  | .bl b, u => u = Value.bool b
  | .int i, u => ∃ t, u = Value.int i t
  | .str x, u => ∃ t, u = Value.str x t
  | .byt b, u => ∃ t, u = Value.bytes b t
  | .flt b, u => ∃ t, u = Value.float b t
  | .ref a, u => u = Value.ref a
  | .ty n, u => u = Value.type n
abbrev Vals : List V -> List Value -> Prop := Paired RelV
theorem Vals.length {xs : List V} {us : List Value} (r : Vals xs us) : xs.length = us.length := Paired.length r
theorem Vals.get : ∀ {xs : List V} {us : List Value} {i : Nat} {x : V}, Vals xs us -> xs[i]? = some x -> ∃ u, us[i]? = some u /\ RelV x u
  | _, _, _, _, .nil, e => by simp at e
  | _, _, 0, _, .cons r _, e => by simp at e; subst e; exact ⟨_, rfl, r⟩
  | _, _, i + 1, x, .cons _ t, e => by
    obtain ⟨u, h1, h2⟩ := Vals.get (i := i) (x := x) t (by simpa using e);exact ⟨u, by simpa using h1, h2⟩
theorem Vals.set {x : V} {u : Value} (r : RelV x u) : ∀ {xs : List V} {us : List Value} (i : Nat), Vals xs us -> Vals (xs.set i x) (us.set i u)
  | _, _, _, .nil => .nil
  | _, _, 0, .cons _ t => .cons r t
  | _, _, i + 1, .cons q t => .cons q (Vals.set r i t)
theorem Vals.append : ∀ {xs ys : List V} {us ws : List Value}, Vals xs us -> Vals ys ws -> Vals (xs ++ ys) (us ++ ws)
  | _, _, _, _, .nil, s => s
  | _, _, _, _, .cons r t, s => .cons r (Vals.append t s)
theorem Vals.take : ∀ {xs : List V} {us : List Value} (n : Nat), Vals xs us -> Vals (xs.take n) (us.take n)
  | _, _, 0, _ => .nil
  | _, _, _ + 1, .nil => .nil
  | _, _, n + 1, .cons r t => .cons r (Vals.take n t)
theorem Vals.drop : ∀ {xs : List V} {us : List Value} (n : Nat), Vals xs us -> Vals (xs.drop n) (us.drop n)
  | _, _, 0, r => r
  | _, _, _ + 1, .nil => .nil
  | _, _, n + 1, .cons _ t => Vals.drop n t
theorem Vals.none_of : ∀ {xs : List V} {us : List Value} {i : Nat}, Vals xs us -> xs[i]? = none -> us[i]? = none := fun {xs us i} r e => by
  have h1 := r.length;have h2 : xs.length <= i := List.getElem?_eq_none_iff.mp e;exact List.getElem?_eq_none_iff.mpr (by omega)
def RelO : Option V -> Option Value -> Prop
  | some v, some u => RelV v u
  | none, none => True
  | _, _ => False
def KV {κ : Type} : List (κ × V) -> List (κ × Value) -> Prop := Paired fun (p : κ × V) (q : κ × Value) => p.1 = q.1 /\ RelV p.2 q.2
def kV : Key -> V
  | .inl i => .int i
  | .inr x => .str x
inductive HO where
    | lst (xs : List V)
    | tup (xs : List V)
    | dK (kvs : List (Key × V)) | dT (kvs : List (List Key × V))
    | set (S : Int -> Bool) (n : Nat)
    | ins (C dx : Addr) (fs : List (Str × V))
    | own (x : Addr)
    | xd (fs : List (Str × V))
    | met (f x : Addr)
    | rng (lo hi : Int)
    | frz (o : Obj) (u : HO)
    | tbl (ps : Array Value)
    | ext (φ : Heap -> Prop)
abbrev Hp := Addr -> Option HO
def upd (H : Hp) (a : Addr) (o : HO) : Hp := fun b => if b = a then some o else H b
theorem y1 {H : Hp} {a : Addr} {o : HO} : upd H a o a = some o := by unfold upd; rw [if_pos rfl]
theorem y9 {H : Hp} {a b : Addr} {o : HO} (h : b ≠ a) : upd H a o b = H b := by unfold upd; rw [if_neg h]
theorem ne_of {H : Hp} {a b : Addr} {o u : HO} (h : H a = some o) (h' : H b = some u) (d : o ≠ u) : a ≠ b := by
  intro e; subst e; rw [h] at h'; exact d (Option.some.inj h')
theorem y4 {H : Hp} {a b : Addr} {o : HO} (h : H a = some o) (h' : H b = none) : a ≠ b := by
  intro e; subst e; rw [h] at h'; cases h'
section
variable (P : Program) (w : World)
def Q7 (H : Hp) (h : Heap) (a : Addr) : HO -> Prop
  | .lst xs => xs.length <= sizeLine /\ ∃ (its : List Value) (n : Nat), Vals xs its /\ h.get? a = some { cls := .type "list", data := .seq its.toArray n }
  | .tup xs => xs.length <= sizeLine /\ ∃ its : List Value, Vals xs its /\ IsTup h a its.toArray
  | .dK kvs => kvs.length <= sizeLine /\ (a == sysModules) = false /\ ∃ vs, KV kvs vs /\ h.DictOf (x4 P w) a vs
  | .dT kvs => kvs.length <= sizeLine /\ (a == sysModules) = false /\ ∃ xs : List (List Key × Addr × Value),
      Paired (fun (p : List Key × V) (q : List Key × Addr × Value) => p.1 = q.1 /\ H q.2.1 = some (.tup (p.1.map kV)) /\ RelV p.2 q.2.2) kvs xs /\
      ∃ o es ep, h.get? a = some o /\ o.ExactDict /\ o.data = .dict es ep /\ es.toList = xs.map (entryOfKey (tupleKind (x4 P w))) /\ (xs.map (·.1)).Nodup
  | .set S n => h.SetOf (intKind P w) a S n
  | .ins C dx fs => H dx = some (.own a) /\ fs.length <= 1000 /\ dx ≠ a /\ h.get? a = some (PySem.W.instObj C dx) /\
      ∃ mA, h.Ns1 dx mA /\ (∀ f, RelO (fs.lookup f) (mA f)) /\ PySem.Within mA (fs.map (·.1))
  | .own _ => ∃ o, h.get? a = some o
  | .xd fs => ∃ mA, h.Ns1 a mA /\ ∀ f, RelO (fs.lookup f) (mA f)
  | .rng lo hi => ∃ t u v, h.get? a = some { cls := .type "range", data := .fields #[.int lo t, .int hi u, .int 1 v] }
  | .frz o u => h.get? a = some o /\ Q7 H h a u
  | .tbl ps => h.get? a = some { cls := .none, data := .fields ps }
  | .met f x => h.get? a = some (PySem.W.methodObj (.ref f) (.ref x))
  | .ext φ => φ h /\ (∃ o, h.get? a = some o) /\ ∀ h1 h2 : Heap, φ h1 -> (∀ o, h1.get? a = some o -> h2.get? a = some o) -> φ h2
def HOk (H : Hp) (h : Heap) : Prop := ∀ a o, H a = some o -> Q7 P w H h a o
end
section
variable {P : Program} {w : World} {H H' : Hp} {h h' : Heap} {a : Addr} {o : HO}
theorem Q7.lt (x : Q7 P w H h a o) : a < h.objs.size := by
  cases o with
  | lst xs => obtain ⟨_, _, _, _, e⟩ := x; exact Heap.lt_size e
  | tup xs => obtain ⟨_, _, _, p⟩ := x; exact p.lt
  | dK kvs => obtain ⟨_, _, _, _, o, _, _, e, _⟩ := x; exact Heap.lt_size e
  | dT kvs => obtain ⟨_, _, _, _, o, _, _, e, _⟩ := x; exact Heap.lt_size e
  | set S n => obtain ⟨o, _, _, _, e, _⟩ := x; exact Heap.lt_size e
  | ins C dx fs => obtain ⟨_, _, _, e, _⟩ := x; exact Heap.lt_size e
  | own y => obtain ⟨_, e⟩ := x; exact Heap.lt_size e
  | xd fs => obtain ⟨_, ⟨_, _, _, e, _⟩, _⟩ := x; exact Heap.lt_size e
  | rng lo hi => obtain ⟨_, _, _, e⟩ := x; exact Heap.lt_size e
  | frz ob u => obtain ⟨e, _⟩ := x; exact Heap.lt_size e
  | tbl ps => exact Heap.lt_size (show h.get? a = some _ from x)
  | met f y => exact Heap.lt_size (show h.get? a = some _ from x)
  | ext φ => obtain ⟨_, ⟨_, e⟩, _⟩ := x; exact Heap.lt_size e
theorem Paired.mapP {α β : Type} {F G : α -> β -> Prop} : ∀ {l₁ : List α} {l₂ : List β}, Paired F l₁ l₂ -> (∀ a b, F a b -> G a b) -> Paired G l₁ l₂
  | _, _, .nil, _ => .nil
  | _, _, .cons r t, f => .cons (f _ _ r) (Paired.mapP t f)
theorem Q7.stay (x : Q7 P w H h a o) (k : ∀ b u, (b = a \/ H b = some (.own a)) -> h.get? b = some u -> h'.get? b = some u)
    (ho : ∀ b, H b = some (.own a) -> H' b = some (.own a)) (ht : ∀ b xs, H b = some (.tup xs) -> H' b = some (.tup xs)) : Q7 P w H' h' a o := by
  induction o with
  | lst xs => obtain ⟨z, its, n, r, e⟩ := x; exact ⟨z, its, n, r, k _ _ (.inl rfl) e⟩
  | tup xs => obtain ⟨z, its, r, ob, e, c⟩ := x; exact ⟨z, its, r, ob, k _ _ (.inl rfl) e, c⟩
  | dK kvs => obtain ⟨z, y, vs, r, ob, es, ep, e, c⟩ := x; exact ⟨z, y, vs, r, ob, es, ep, k _ _ (.inl rfl) e, c⟩
  | dT kvs =>
    obtain ⟨z, y, xs, r, ob, es, ep, e, c⟩ := x;exact ⟨z, y, xs, Paired.mapP r fun p q z => ⟨z.1, ht _ _ z.2.1, z.2.2⟩, ob, es, ep, k _ _ (.inl rfl) e, c⟩
  | set S n => obtain ⟨ob, es, ep, t, e, c⟩ := x; exact ⟨ob, es, ep, t, k _ _ (.inl rfl) e, c⟩
  | ins C dx fs =>
    obtain ⟨d, z, ne, e, mA, ⟨od, es, ep, e2, c⟩, r⟩ := x;exact ⟨ho _ d, z, ne, k _ _ (.inl rfl) e, mA, ⟨od, es, ep, k _ _ (.inr d) e2, c⟩, r⟩
  | own y => obtain ⟨ob, e⟩ := x; exact ⟨ob, k _ _ (.inl rfl) e⟩
  | xd fs => obtain ⟨mA, ⟨od, es, ep, e, c⟩, r⟩ := x; exact ⟨mA, ⟨od, es, ep, k _ _ (.inl rfl) e, c⟩, r⟩
  | rng lo hi => obtain ⟨t, u, v, e⟩ := x; exact ⟨t, u, v, k _ _ (.inl rfl) e⟩
  | frz ob u ih => obtain ⟨e, q⟩ := x; exact ⟨k _ _ (.inl rfl) e, ih q⟩
  | tbl ps =>
    have e : h.get? a = some { cls := .none, data := .fields ps } := x;show h'.get? a = some { cls := .none, data := .fields ps };exact k a _ (.inl rfl) e
  | met f y =>
    have e : h.get? a = some (PySem.W.methodObj (.ref f) (.ref y)) := x;show h'.get? a = some (PySem.W.methodObj (.ref f) (.ref y));exact k a _ (.inl rfl) e
  | ext φ => obtain ⟨p, ⟨o, e⟩, st⟩ := x; exact ⟨st _ _ p fun o q => k _ _ (.inl rfl) q, ⟨o, k _ _ (.inl rfl) e⟩, st⟩
theorem HOk.lt (x : HOk P w H h) (e : H a = some o) : a < h.objs.size := (x a o e).lt
theorem HOk.fresh (x : HOk P w H h) (e : h.objs.size <= a) : H a = none := by
  cases q : H a with
  | none => rfl
  | some u => exact absurd (Nat.lt_of_lt_of_le (x.lt q) e) (Nat.lt_irrefl _)
theorem HOk.kept (x : HOk P w H h) (k : ∀ b u, h.get? b = some u -> h'.get? b = some u) : HOk P w H h' := fun a o e =>
  (x a o e).stay (fun b u _ q => k b u q) (fun _ q => q) fun _ _ q => q
theorem HOk.laid (x : HOk P w H h) (k : ∀ b u, h.get? b = some u -> h'.get? b = some u) (hp : h.objs.size <= a) (new : Q7 P w (upd H a o) h' a o) : HOk P w (upd H a o) h' := fun b u e => by
  have hn := x.fresh hp;by_cases hb : b = a
  · subst hb; rw [y1] at e; cases e; exact new
  · rw [y9 hb] at e;exact (x b u e).stay (fun c v _ q => k c v q) (fun c q => by rw [y9 (y4 q hn)]; exact q) fun c xs q => by rw [y9 (y4 q hn)]; exact q
end
def Rd (H : Hp) (a : Addr) (u : HO) : Prop := H a = some u \/ ∃ o, H a = some (.frz o u)
theorem Rd.of {H : Hp} {a : Addr} {u : HO} (h : H a = some u) : Rd H a u := .inl h
theorem Rd.ok {P : Program} {w : World} {H : Hp} {h : Heap} {a : Addr} {u : HO} (r : Rd H a u) (x : HOk P w H h) : Q7 P w H h a u := by
  rcases r with r | ⟨o, r⟩
  · exact x a u r
  · obtain ⟨_, q⟩ := x a _ r;exact q
def Mut : Option HO -> Prop
  | some (.lst _) => True
  | some (.dK _) => True
  | some (.dT _) => True
  | some (.set _ _) => True
  | some (.ins _ _ _) => True
  | some (.ext _) => True
  | _ => False
section
variable {P : Program} {w : World} {H : Hp} {h h' : Heap} {x e : Addr} {o' : HO}
theorem HOk.write (ok : HOk P w H h) (mu : Mut (H x)) (he : e = x \/ H e = some (.own x)) (k : ∀ b u, b ≠ e -> h.get? b = some u -> h'.get? b = some u) (heo : ∃ u, h'.get? e = some u)
    (new : Q7 P w (upd H x o') h' x o') : HOk P w (upd H x o') h' := fun b u q => by
  have nown : ∀ c y, H c = some (.own y) -> c ≠ x := fun c y r z => by subst z; rw [r] at mu; exact mu
  have ntup : ∀ c xs, H c = some (.tup xs) -> c ≠ x := fun c xs r z => by subst z; rw [r] at mu; exact mu
  by_cases hb : b = x
  · subst hb; rw [y1] at q; cases q; exact new
  · rw [y9 hb] at q;by_cases hbe : b = e
    · have q' : H b = some (.own x) := by
        rcases he with z | z
        · exact absurd (hbe.trans z) hb
        · rw [hbe]; exact z
      rw [q] at q'; cases q';obtain ⟨v, hv⟩ := heo;exact ⟨v, by rw [hbe]; exact hv⟩
    · refine (ok b u q).stay (fun c v hc r => k c v ?_ r) (fun c r => by rw [y9 (nown c b r)]; exact r) fun c xs r => by rw [y9 (ntup c xs r)]; exact r
      rcases hc with rfl | hc
      · exact hbe
      · rintro rfl;rcases he with z | z
        · exact nown c b hc z
        · rw [hc] at z; cases z; exact hb rfl
end
structure Un (fs ex : List Addr) (H H' : Hp) (h h' : Heap) : Prop where
  keep : ∀ b o, h.get? b = some o -> H b = none -> b ∉ fs -> b ∉ ex -> h'.get? b = some o
  slot : ∀ b o, h.get? b = some o -> H b = none -> b ∈ fs -> b ∉ ex -> ∃ sl, h'.get? b = some { o with slots := sl }
  free : ∀ b o, h.get? b = some o -> H b = none -> b ∉ ex -> H' b = none
  there : ∀ b o, h.get? b = some o -> b ∉ ex -> ∃ o', h'.get? b = some o'
  tups : ∀ b xs, H b = some (.tup xs) -> H' b = some (.tup xs)
  frzs : ∀ b o u, H b = some (.frz o u) -> H' b = some (.frz o u)
  tbls : ∀ b ps, H b = some (.tbl ps) -> ∃ more, H' b = some (.tbl (ps ++ more))
section
variable {fs fs' ex ex' : List Addr} {H H1 H2 : Hp} {h h1 h2 h' : Heap} {a x e : Addr} {o : HO}
theorem Un.any (u : Un fs ex H H1 h h1) {b : Addr} {ob : Obj} (q : h.get? b = some ob) (n : H b = none) (hx : b ∉ ex) : ∃ sl, h1.get? b = some { ob with slots := sl } := by
  by_cases hb : b ∈ fs
  · exact u.slot b ob q n hb hx
  · exact ⟨ob.slots, u.keep b ob q n hb hx⟩
theorem Un.trans (a : Un fs ex H H1 h h1) (b : Un fs ex H1 H2 h1 h2) : Un fs ex H H2 h h2 where
  keep := fun c ob q n hc hx => b.keep c ob (a.keep c ob q n hc hx) (a.free c ob q n hx) hc hx
  slot := fun c ob q n hc hx => by
    obtain ⟨sl, e1⟩ := a.slot c ob q n hc hx;obtain ⟨sl', e2⟩ := b.slot c _ e1 (a.free c ob q n hx) hc hx;exact ⟨sl', e2⟩
  free := fun c ob q n hx => by
    obtain ⟨o', e1⟩ := a.there c ob q hx;exact b.free c o' e1 (a.free c ob q n hx) hx
  there := fun c ob q hx => by
    obtain ⟨o', e1⟩ := a.there c ob q hx;exact b.there c o' e1 hx
  tups := fun c xs q => b.tups c xs (a.tups c xs q)
  frzs := fun c ob xs q => b.frzs c ob xs (a.frzs c ob xs q)
  tbls := fun c ps q => by
    obtain ⟨m1, e1⟩ := a.tbls c ps q;obtain ⟨m2, e2⟩ := b.tbls c _ e1;exact ⟨m1 ++ m2, by rw [e2, Array.append_assoc]⟩
theorem Un.kept (k : ∀ b u, h.get? b = some u -> h'.get? b = some u) : Un fs ex H H h h' :=
  ⟨fun b ob q _ _ _ => k b ob q, fun b ob q _ _ _ => ⟨ob.slots, k b ob q⟩, fun _ _ _ n _ => n, fun b ob q _ => ⟨ob, k b ob q⟩, fun _ _ q => q, fun _ _ _ q => q, fun _ ps q => ⟨#[], by rw [q]; simp⟩⟩
theorem Un.refl : Un fs ex H H h h := Un.kept fun _ _ q => q
theorem Un.laid (k : ∀ b u, h.get? b = some u -> h'.get? b = some u) (hp : h.objs.size <= a) (hn : H a = none) : Un fs ex H (upd H a o) h h' where
  keep := fun b u q _ _ _ => k b u q
  slot := fun b u q _ _ _ => ⟨u.slots, k b u q⟩
  free := fun b u q n _ => by rw [y9 (Nat.ne_of_lt (Nat.lt_of_lt_of_le (Heap.lt_size q) hp))]; exact n
  there := fun b u q _ => ⟨u, k b u q⟩
  tups := fun b xs q => by rw [y9 (y4 q hn)]; exact q
  frzs := fun b u xs q => by rw [y9 (y4 q hn)]; exact q
  tbls := fun b ps q => ⟨#[], by rw [y9 (y4 q hn), q]; simp⟩
theorem Un.write (mu : Mut (H x)) (he : e = x \/ H e = some (.own x)) (k : ∀ b u, b ≠ e -> h.get? b = some u -> h'.get? b = some u) (heo : ∃ u, h'.get? e = some u) : Un fs ex H (upd H x o) h h' := by
  have hx : ∀ b, H b = none -> b ≠ x := fun b n z => by subst z; rw [n] at mu; exact mu
  have hb : ∀ b, H b = none -> b ≠ e := fun b n z => by
    subst z;rcases he with r | r
    · exact hx b n r
    · rw [n] at r; cases r
  have hm : ∀ b u, H b = some u -> ¬ Mut (some u) -> b ≠ x := fun b u q nm z => by subst z; rw [q] at mu; exact nm mu
  refine ⟨fun b u q n _ _ => k b u (hb b n) q, fun b u q n _ _ => ⟨u.slots, k b u (hb b n) q⟩, fun b u q n _ => by rw [y9 (hx b n)]; exact n, fun b u q _ => ?_,
    fun b xs q => by rw [y9 (hm b _ q fun z => z)]; exact q, fun b u xs q => by rw [y9 (hm b _ q fun z => z)]; exact q, fun b ps q => ⟨#[], by rw [y9 (hm b _ q fun z => z), q]; simp⟩⟩
  by_cases hbe : b = e
  · subst hbe; exact heo
  · exact ⟨u, k b u hbe q⟩
theorem Un.mono (u : Un fs ex H H1 h h1) (hs : ∀ b ∈ fs, b ∈ fs') (hx : ∀ b ∈ ex, b ∈ ex') : Un fs' ex' H H1 h h1 :=
  ⟨fun b ob q n hb he => u.keep b ob q n (fun z => hb (hs b z)) fun z => he (hx b z), fun _ _ q n _ he => u.any q n fun z => he (hx _ z), fun b ob q n he => u.free b ob q n fun z => he (hx b z), fun b ob q he => u.there b ob q fun z => he (hx b z), u.tups, u.frzs, u.tbls⟩
end
def trk (h : Heap) (H : Hp) : List Addr := (List.range h.objs.size).filter fun a => (H a).isSome
def hidT (h : Heap) (H : Hp) : Heap := PySem.W.hideAll h (trk h H)
theorem hidT_size (h : Heap) (H : Hp) : (hidT h H).objs.size = h.objs.size := PySem.W.hideAll_size _ _
theorem hidT_get {h : Heap} {H : Hp} {b : Addr} {o : Obj} (e : h.get? b = some o) (n : H b = none) : (hidT h H).get? b = some o :=
  PySem.W.hideAll_get _ e fun hm => by
    have q : (H b).isSome = true := (List.mem_filter.mp hm).2;rw [n] at q; simp at q
theorem of_hidT {h : Heap} {H : Hp} {b : Addr} {o : Obj} (e : (hidT h H).get? b = some o) : h.get? b = some o /\ H b = none := by
  have e' : h.get? b = some o := PySem.W.of_hideAll (trk h H) e;refine ⟨e', ?_⟩;cases q : H b with
  | none => rfl
  | some x =>
    have hm : b ∈ trk h H := List.mem_filter.mpr ⟨List.mem_range.mpr (Heap.lt_size e'), by simp [q]⟩;have z : (hidT h H).get? b = none := PySem.W.hideAll_none (trk h H) hm;rw [z] at e; cases e
def allNews (g h : Heap) (L : Addr) : List (Addr × Obj) := (List.range h.objs.size).filterMap fun a => if a = L \/ (g.get? a).isSome = true then none else (h.get? a).map fun o => (a, o)
def rest (g h : Heap) (L d : Addr) : List (Addr × Obj) := (allNews g h L).filter fun p => decide (p.1 ≠ d)
end L2
namespace L2
open PySem PySem.Spec PyProof.Rows
structure Mod (K : PySem.W.Frag) (mg : Str -> Option Value) (base : Heap) : Prop where
  kin : K.In base
  glob : base.Ns mainGlobals mg
  blt : ∃ mb, base.Ns builtinsNs mb /\ ∀ x : Str, x ≠ "__name__" -> mb x = bootBuiltins x
  nolimit : base.NoLimit
structure Cx where
  prog : Program
  w : World
  K : PySem.W.Frag
  mg : Str -> Option Value
  base : Heap
  A : Around
  N : List Str
  s_0 : Shared
  H_0 : Hp
  env : Env
  outer : List Env
  stack : List Env
  ex : List Addr
  fn : Str -> Bool
  calm : Bool
  pn : List (Addr × Obj)
  xe : Value -> Shared -> Prop
def frs (l : List Env) : List Addr := l.filterMap (·.frame)
abbrev Cx.fs (X : Cx) : List Addr := frs X.outer
def Vis (sc : Scope) (x : Str) : Prop := sc.names.lookup x = some .local \/ sc.names.lookup x = some .cell \/ sc.names.lookup x = some .free
def Loc (sc : Scope) (x : Str) : Prop := sc.names.lookup x = some .local \/ sc.names.lookup x = some .cell
def Look (env : Env) (h : Heap) (m : Str -> Option Value) (x : Str) (u : Value) : Prop :=
  (env.kindOf x = some .local /\ m x = some u) \/ ((env.kindOf x = some .cell \/ env.kindOf x = some .free) /\ ∃ c, env.cells.lookup x = some c /\ h.IsCell c (some u))
structure Cx.Ok (X : Cx) : Prop where
  mod : Mod X.K X.mg X.base
  kind : X.env.scope.kind = .function
  glob : X.env.globals = mainGlobals
  blt : X.env.builtins = builtinsNs
  above : X.s_0.heap.objs.size <= X.env.locals
  inj : ∀ x y c, X.env.cells.lookup x = some c -> X.env.cells.lookup y = some c -> x = y
  has : ∀ x, (X.env.kindOf x = some .cell \/ X.env.kindOf x = some .free) -> ∃ c, X.env.cells.lookup x = some c
  cab : ∀ x c, X.fn x = true -> X.env.cells.lookup x = some c -> X.s_0.heap.objs.size <= c
  hd : X.calm = true -> X.A.handled = none
  frames : X.A.frames = some X.stack
  stk : X.stack = X.outer \/ (X.stack = X.env :: X.outer /\ X.env.frame = some X.env.locals)
  exf : ∀ b ∈ X.ex, b ≠ X.env.locals /\ ∀ x c, X.env.cells.lookup x = some c -> c ≠ b
  bs : ∀ b o, X.base.get? b = some o -> X.s_0.heap.get? b = some o /\ X.H_0 b = none
  bsz : X.base.objs.size <= X.s_0.heap.objs.size
  noex : ∀ b o, X.base.get? b = some o -> b ∉ X.ex
  exfs : ∀ b ∈ X.ex, b ∉ X.fs
  funs : X.s_0.heap.FunFrames X.base X.outer
  frf : ∀ b ∈ X.fs, X.H_0 b = none
structure Inv (X : Cx) (pins : List (Addr × Obj)) (σ : List (Option V)) (H : Hp) (s : Shared) : Prop where
  ok : X.Ok
  os : s.os = X.s_0.os
  bare : AllBare s.gens
  base : Un X.fs X.ex X.H_0 H X.s_0.heap s.heap
  loc : ∃ m, s.heap.Ns X.env.locals m /\ ∀ (i : Nat) (x : Str) (v : V), X.N[i]? = some x -> σ[i]? = some (some v) -> Vis X.env.scope x -> ∃ u, RelV v u /\ Look X.env s.heap m x u
  cell : ∀ x c, X.env.cells.lookup x = some c -> ∃ v, s.heap.IsCell c v
  free : H X.env.locals = none
  freeC : ∀ x c, X.env.cells.lookup x = some c -> H c = none
  pin : ∀ p ∈ X.pn ++ pins, s.heap.get? p.1 = some p.2 /\ H p.1 = none /\ p.1 ≠ X.env.locals /\ p.1 ∉ X.fs /\ ∀ v, p.2.data ≠ .cell v
  hok : HOk X.prog X.w H s.heap
  len : σ.length = X.N.length
section
variable {X : Cx} {pins : List (Addr × Obj)} {σ : List (Option V)} {H H' : Hp} {s : Shared} {h' : Heap}
theorem Cx.Ok.nofr (ok : X.Ok) {b : Addr} {o : Obj} (e : X.base.get? b = some o) : b ∉ X.fs := fun hb => by
  have := (ok.funs.mem hb).1;rw [e] at this; cases this
theorem Inv.bs (I : Inv X pins σ H s) : ∀ b o, X.base.get? b = some o -> s.heap.get? b = some o /\ H b = none := fun b o e =>
  ⟨I.base.keep b o (I.ok.bs b o e).1 (I.ok.bs b o e).2 (I.ok.nofr e) (I.ok.noex b o e), I.base.free b o (I.ok.bs b o e).1 (I.ok.bs b o e).2 (I.ok.noex b o e)⟩
theorem Inv.bk (I : Inv X pins σ H s) : ∀ b o, X.base.get? b = some o -> s.heap.get? b = some o := fun b o e => (I.bs b o e).1
theorem Inv.mod (I : Inv X pins σ H s) : Mod X.K X.mg X.base := I.ok.mod
theorem Inv.kIn (I : Inv X pins σ H s) : X.K.In s.heap := I.ok.mod.kin.keeps I.bk
theorem Inv.nolimit (I : Inv X pins σ H s) : s.heap.NoLimit := I.ok.mod.nolimit.keeps I.bk
theorem Inv.lt (I : Inv X pins σ H s) : X.env.locals < s.heap.objs.size := let ⟨_, hn, _⟩ := I.loc; hn.lt
theorem Inv.sz (I : Inv X pins σ H s) : X.s_0.heap.objs.size <= s.heap.objs.size := Nat.le_trans I.ok.above (Nat.le_of_lt I.lt)
theorem Inv.nofs (I : Inv X pins σ H s) {a : Addr} (h : s.heap.objs.size <= a) : a ∉ X.fs := fun hb => by
  obtain ⟨_, o, ho, _⟩ := I.ok.funs.mem hb;exact absurd (Nat.lt_of_lt_of_le (Heap.lt_size ho) (Nat.le_trans I.sz h)) (Nat.lt_irrefl _)
theorem Inv.cne (I : Inv X pins σ H s) : ∀ x c, X.env.cells.lookup x = some c -> c ≠ X.env.locals := fun x c e z => by
  obtain ⟨v, o, ho, hd⟩ := I.cell x c e;obtain ⟨m, ⟨o', es, ep, ho', hd', _⟩, _⟩ := I.loc;rw [z, ho'] at ho; cases ho; rw [hd'] at hd; cases hd
theorem Inv.funs (I : Inv X pins σ H s) : s.heap.FunFrames X.base X.outer := by
  have all : ∀ (l : List Env), (∀ b ∈ frs l, b ∈ X.fs) -> X.s_0.heap.FunFrames X.base l -> s.heap.FunFrames X.base l := by
    intro l
    induction l with
    | nil => intro _ _; trivial
    | cons env r ih =>
      intro hs hl;obtain ⟨hk, ⟨L, o, hf, hn, ho, hd⟩, hr⟩ := hl;have hL : L ∈ X.fs := hs L (by unfold frs; rw [List.filterMap_cons, hf]; exact List.mem_cons_self);obtain ⟨sl, e⟩ := I.base.slot L o ho (I.ok.frf L hL) hL fun z => I.ok.exfs L z hL
      exact ⟨hk, ⟨L, _, hf, hn, e, hd⟩, ih (fun b hb => hs b (by unfold frs; rw [List.filterMap_cons, hf]; exact List.mem_cons_of_mem _ hb)) hr⟩
  exact all X.outer (fun _ hb => hb) I.ok.funs
theorem Inv.stack (I : Inv X pins σ H s) : s.heap.FunFrames X.base X.stack := by
  rcases I.ok.stk with e | ⟨e, hf⟩
  · rw [e]; exact I.funs
  · rw [e];obtain ⟨m, hn, _⟩ := I.loc;refine .cons (by rw [I.ok.kind]; decide) hf hn ?_ I.funs;exact Heap.get?_none_of_le (Nat.le_trans I.ok.bsz I.ok.above)
theorem Inv.stkSub (I : Inv X pins σ H s) : ∀ b ∈ frs X.stack, b ∈ X.env.locals :: X.fs := fun b hb => by
  rcases I.ok.stk with e | ⟨e, hf⟩
  · rw [e] at hb; exact List.mem_cons_of_mem _ hb
  · rw [e] at hb;unfold frs at hb;rw [List.filterMap_cons, hf] at hb;exact hb
theorem Inv.stkFree (I : Inv X pins σ H s) : ∀ b ∈ frs X.stack, H b = none := fun b hb => by
  rcases List.mem_cons.mp (I.stkSub b hb) with e | hb
  · rw [e]; exact I.free
  · obtain ⟨_, o, ho, _⟩ := I.ok.funs.mem hb;exact I.base.free b o ho (I.ok.frf b hb) fun z => I.ok.exfs b z hb
theorem Inv.step {g' : Array GenState} {t' : Nat} {d' : Drawn} {ch : List Addr} (I : Inv X pins σ H s)
    (hch : ∀ b ∈ ch, (b ∈ X.ex \/ X.s_0.heap.objs.size <= b) /\ b ≠ X.env.locals /\ (∀ x c, X.env.cells.lookup x = some c -> c ≠ b) /\ ∀ p ∈ X.pn ++ pins, p.1 ≠ b)
    (keep : ∀ b o, b ≠ X.env.locals -> b ∉ X.fs -> b ∉ ch -> s.heap.get? b = some o -> H b = none -> h'.get? b = some o)
    (slot : ∀ b o, b ≠ X.env.locals -> b ∈ X.fs -> b ∉ ch -> s.heap.get? b = some o -> H b = none -> ∃ sl, h'.get? b = some { o with slots := sl }) (free : ∀ b o, b ∉ ch -> s.heap.get? b = some o -> H b = none -> H' b = none)
    (there : ∀ b o, b ∉ ch -> s.heap.get? b = some o -> ∃ o', h'.get? b = some o')
    (tups : ∀ b xs, H b = some (.tup xs) -> H' b = some (.tup xs)) (frzs : ∀ b o u, H b = some (.frz o u) -> H' b = some (.frz o u)) (tbls : ∀ b ps, H b = some (.tbl ps) -> ∃ more, H' b = some (.tbl (ps ++ more)))
    (ns : ∀ m, s.heap.Ns X.env.locals m -> h'.Ns X.env.locals m) (hok : HOk X.prog X.w H' h') (hg : AllBare g') :
    Inv X pins σ H' { s with heap := h', gens := g', drawn := d', toks := t' } := by
  have neL : ∀ b o, X.s_0.heap.get? b = some o -> b ≠ X.env.locals := fun b o e => Nat.ne_of_lt (Nat.lt_of_lt_of_le (Heap.lt_size e) I.ok.above)
  have neC : ∀ b o, X.s_0.heap.get? b = some o -> b ∉ X.ex -> b ∉ ch := fun b o e hx hb => by
    rcases (hch b hb).1 with z | z
    · exact hx z
    · exact absurd (Nat.lt_of_lt_of_le (Heap.lt_size e) z) (Nat.lt_irrefl _)
  have cellK : ∀ x c, X.env.cells.lookup x = some c -> ∀ v, s.heap.IsCell c v -> h'.IsCell c v := fun x c e v ⟨o, ho, hd⟩ => by
    have nch : c ∉ ch := fun z => (hch c z).2.2.1 x c e rfl
    by_cases hc : c ∈ X.fs
    · obtain ⟨sl, q⟩ := slot c o (I.cne x c e) hc nch ho (I.freeC x c e);exact ⟨_, q, hd⟩
    · exact ⟨o, keep c o (I.cne x c e) hc nch ho (I.freeC x c e), hd⟩
  refine ⟨I.ok, I.os, hg, ⟨fun b o e n hb hx => ?_, fun b o e n hb hx => ?_, fun b o e n hx => ?_, fun b o e hx => ?_, fun b xs e => tups b xs (I.base.tups b xs e), fun b o xs e => frzs b o xs (I.base.frzs b o xs e), fun b ps e => ?_⟩, ?_, fun x c e => ?_, ?_, fun x c e => ?_, fun p hp => ?_, hok, I.len⟩
  · exact keep b o (neL b o e) hb (neC b o e hx) (I.base.keep b o e n hb hx) (I.base.free b o e n hx)
  · obtain ⟨sl, e1⟩ := I.base.slot b o e n hb hx;obtain ⟨sl', e2⟩ := slot b _ (neL b o e) hb (neC b o e hx) e1 (I.base.free b o e n hx);exact ⟨sl', e2⟩
  · obtain ⟨o', e1⟩ := I.base.there b o e hx;exact free b o' (neC b o e hx) e1 (I.base.free b o e n hx)
  · obtain ⟨o', e1⟩ := I.base.there b o e hx;exact there b o' (neC b o e hx) e1
  · obtain ⟨m1, e1⟩ := I.base.tbls b ps e;obtain ⟨m2, e2⟩ := tbls b _ e1;exact ⟨m1 ++ m2, by rw [e2, Array.append_assoc]⟩
  · obtain ⟨m, hn, hl⟩ := I.loc;refine ⟨m, ns m hn, fun i x v e1 e2 e3 => ?_⟩;obtain ⟨u, r, l⟩ := hl i x v e1 e2 e3;refine ⟨u, r, ?_⟩;rcases l with l | ⟨k, c, e, z⟩
    · exact .inl l
    · exact .inr ⟨k, c, e, cellK x c e _ z⟩
  · obtain ⟨v, z⟩ := I.cell x c e;exact ⟨v, cellK x c e v z⟩
  · obtain ⟨m, ⟨o, _, _, ho, _⟩, _⟩ := I.loc;exact free _ o (fun z => (hch _ z).2.1 rfl) ho I.free
  · obtain ⟨v, o, ho, hd⟩ := I.cell x c e;exact free c o (fun z => (hch c z).2.2.1 x c e rfl) ho (I.freeC x c e)
  · obtain ⟨e, n, ne, nf, d⟩ := I.pin p hp;have nch : p.1 ∉ ch := fun z => (hch p.1 z).2.2.2 p hp rfl
    exact ⟨keep p.1 p.2 ne nf nch e n, free p.1 p.2 nch e n, ne, nf, d⟩
theorem Inv.un {t' : Nat} (I : Inv X pins σ H s) (u : Un X.fs [] H H' s.heap h') (hok : HOk X.prog X.w H' h') : Inv X pins σ H' { s with heap := h', toks := t' } := by
  obtain ⟨m, ⟨o, es, ep, ho, r⟩, _⟩ := id I.loc;obtain ⟨sl, hL⟩ := u.any ho I.free (by simp)
  exact I.step (g' := s.gens) (d' := s.drawn) (ch := []) (fun _ z => nomatch z) (fun b o _ hb _ e n => u.keep b o e n hb (by simp)) (fun b o _ hb _ e n => u.slot b o e n hb (by simp)) (fun b o _ e n => u.free b o e n (by simp)) (fun b o _ e => u.there b o e (by simp)) u.tups u.frzs u.tbls (fun m' hm => by
    obtain ⟨o', es', ep', ho', r'⟩ := hm;rw [ho] at ho'; cases ho';exact ⟨_, es', ep', hL, r'⟩) hok I.bare
theorem Inv.call {g' : Array GenState} {t' : Nat} {d' : Drawn} {ch : List Addr} (I : Inv X pins σ H s) (u : Un (frs X.stack) ch H H' s.heap h') (hok : HOk X.prog X.w H' h') (hg : AllBare g')
    (hch : ∀ b ∈ ch, (b ∈ X.ex \/ X.s_0.heap.objs.size <= b) /\ b ≠ X.env.locals /\ (∀ x c, X.env.cells.lookup x = some c -> c ≠ b) /\ ∀ p ∈ X.pn ++ pins, p.1 ≠ b) :
    Inv X pins σ H' { s with heap := h', gens := g', drawn := d', toks := t' } := by
  obtain ⟨m, ⟨o, es, ep, ho, r⟩, _⟩ := id I.loc;obtain ⟨sl, hL⟩ := u.any ho I.free fun z => (hch _ z).2.1 rfl
  exact I.step (ch := ch) hch (fun b o hL hb hc e n => u.keep b o e n (fun z => (List.mem_cons.mp (I.stkSub b z)).elim hL hb) hc) (fun b o _ _ hc e n => u.any e n hc) (fun b o hc e n => u.free b o e n hc) (fun b o hc e => u.there b o e hc) u.tups u.frzs u.tbls (fun m' hm => by
    obtain ⟨o', es', ep', ho', r'⟩ := hm;rw [ho] at ho'; cases ho';exact ⟨_, es', ep', hL, r'⟩) hok hg
theorem Inv.turned {t' : Nat} {it : Addr} (I : Inv X pins σ H s) (k : ∀ b o, b ≠ it -> s.heap.get? b = some o -> h'.get? b = some o) (hn : H it = none) (hL : it ≠ X.env.locals)
    (h1 : it ∈ X.ex \/ X.s_0.heap.objs.size <= it) (h2 : ∀ x c, X.env.cells.lookup x = some c -> c ≠ it) (h3 : ∀ p ∈ X.pn ++ pins, p.1 ≠ it) : Inv X pins σ H { s with heap := h', toks := t' } := by
  have nit : ∀ b u, H b = some u -> b ≠ it := fun b u e z => by rw [z, hn] at e; cases e
  refine I.step (g' := s.gens) (d' := s.drawn) (ch := [it]) (fun b hb => ?_) (fun b o _ _ hc e _ => k b o (fun z => hc (by simp [z])) e) (fun b o _ _ hc e _ => ⟨o.slots, k b o (fun z => hc (by simp [z])) e⟩) (fun _ _ _ _ n => n)
    (fun b o hc e => ⟨o, k b o (fun z => hc (by simp [z])) e⟩) (fun _ _ e => e) (fun _ _ _ e => e) (fun b ps e => ⟨#[], by rw [e]; simp⟩) (fun m hm => ?_) (fun b u e => ?_) I.bare
  · have e : b = it := by simpa using hb
    subst e;exact ⟨h1, hL, h2, h3⟩
  · obtain ⟨o, es, ep, ho, r⟩ := hm;exact ⟨o, es, ep, k _ o (Ne.symm hL) ho, r⟩
  · refine (I.hok b u e).stay (fun c v hc q => k c v ?_ q) (fun _ q => q) fun _ _ q => q
    rcases hc with z | z
    · rw [z]; exact nit b u e
    · exact nit c _ z
theorem Inv.tok (I : Inv X pins σ H s) (t : Nat) : Inv X pins σ H { s with toks := t } := I.un (h' := s.heap) (t' := t) Un.refl I.hok
theorem Inv.kept {t' : Nat} (I : Inv X pins σ H s) (k : ∀ b u, s.heap.get? b = some u -> h'.get? b = some u) : Inv X pins σ H { s with heap := h', toks := t' } := I.un (Un.kept k) (I.hok.kept k)
theorem Inv.laid {a : Addr} {o : HO} {t' : Nat} (I : Inv X pins σ H s) (k : ∀ b u, s.heap.get? b = some u -> h'.get? b = some u) (hp : s.heap.objs.size <= a) (new : Q7 X.prog X.w (upd H a o) h' a o) :
    Inv X pins σ (upd H a o) { s with heap := h', toks := t' } := I.un (Un.laid k hp (I.hok.fresh hp)) (I.hok.laid k hp new)
theorem Inv.write {x e : Addr} {o : HO} {t' : Nat} (I : Inv X pins σ H s) (mu : Mut (H x)) (he : e = x \/ H e = some (.own x)) (k : ∀ b u, b ≠ e -> s.heap.get? b = some u -> h'.get? b = some u) (heo : ∃ u, h'.get? e = some u)
    (new : Q7 X.prog X.w (upd H x o) h' x o) : Inv X pins σ (upd H x o) { s with heap := h', toks := t' } := I.un (Un.write mu he k heo) (I.hok.write mu he k heo new)
theorem Inv.weak {σ' : List (Option V)} (I : Inv X pins σ H s) (hl : σ'.length = σ.length) (w : ∀ (i : Nat) v, σ'[i]? = some (some v) -> σ[i]? = some (some v)) : Inv X pins σ' H s :=
  ⟨I.ok, I.os, I.bare, I.base, let ⟨m, hn, hl'⟩ := I.loc; ⟨m, hn, fun i x v e1 e2 e3 => hl' i x v e1 (w i v e2) e3⟩, I.cell, I.free, I.freeC, I.pin, I.hok, hl.trans I.len⟩
theorem Inv.pins_of {pins' : List (Addr × Obj)} (I : Inv X pins σ H s) (h : ∀ p ∈ pins', s.heap.get? p.1 = some p.2 /\ H p.1 = none /\ p.1 ≠ X.env.locals /\ p.1 ∉ X.fs /\ ∀ v, p.2.data ≠ .cell v) : Inv X pins' σ H s :=
  ⟨I.ok, I.os, I.bare, I.base, I.loc, I.cell, I.free, I.freeC, fun p hp => (List.mem_append.mp hp).elim (fun z => I.pin p (List.mem_append_left _ z)) (h p), I.hok, I.len⟩
theorem nodup_ix {N : List Str} (hN : N.Nodup) {i j : Nat} {x : Str} (a : N[i]? = some x) (b : N[j]? = some x) : i = j := by
  obtain ⟨h1, e1⟩ := List.getElem?_eq_some_iff.mp a;obtain ⟨h2, e2⟩ := List.getElem?_eq_some_iff.mp b;exact (List.getElem_inj hN).mp (e1.trans e2.symm)
theorem store_ok2 {M : Model} {A : Around} {E : Value -> Shared -> Prop} {i : Nat} {x : Str} {v : V} {u : Value} {Q : Unit -> Shared -> Prop} (I : Inv X pins σ H s) (hN : X.N.Nodup) (hi : X.N[i]? = some x) (hx : Loc X.env.scope x) (r : RelV v u)
    (h : ∀ s', Inv X pins (σ.set i (some v)) H s' -> (∃ a, Heap.SameBut a s.heap s'.heap /\ (a = X.env.locals \/ X.env.cells.lookup x = some a)) -> Q () s') (hf : X.fn x = true \/ X.env.scope.names.lookup x = some .local := by first | exact .inl rfl | exact .inr rfl | assumption) : wpAny M A (storeName X.env x u) Q E s := by
  obtain ⟨m, hn, hl⟩ := id I.loc;have hcls : (X.env.scope.kind == .class || (X.env.scope.kind == .module && X.env.locals != X.env.globals)) = false := by rw [I.ok.kind]; rfl
  have hiσ : i < σ.length := by rw [I.len]; exact (List.getElem?_eq_some_iff.mp hi).1
  have cne := I.cne
  have tracked : ∀ {a : Addr} {h' : Heap}, (∃ o, s.heap.get? a = some o /\ H a = none) -> Heap.SameBut a s.heap h' -> HOk X.prog X.w H h' := fun {a h'} ha hs b ob e => by
    obtain ⟨_, _, hfree⟩ := ha;refine (I.hok b ob e).stay (fun c w' hc q => (hs.2 c ?_).trans q) (fun _ q => q) fun _ _ q => q
    rintro rfl;rcases hc with rfl | hc
    · rw [hfree] at e; cases e
    · rw [hfree] at hc; cases hc
  rcases hx with hk | hk
  · refine wpAny_storeName_local hk hn (fun h' hn' hs => ?_) hcls;obtain ⟨oL, _, _, hoL, _⟩ := id hn;refine h _ ⟨I.ok, I.os, I.bare, ⟨fun b o e n hb hx => ?_, fun b o e n hb hx => ?_, I.base.free, fun b o e hx => ?_, I.base.tups, I.base.frzs, I.base.tbls⟩, ⟨_, hn', fun j y v' e1 e2 e3 => ?_⟩, fun y c e => ?_, I.free, I.freeC, fun p hp => ?_, tracked ⟨oL, hoL, I.free⟩ hs, by simpa using I.len⟩ ⟨_, hs, .inl rfl⟩
    · exact (hs.2 b (Nat.ne_of_lt (Nat.lt_of_lt_of_le (Heap.lt_size e) I.ok.above))).trans (I.base.keep b o e n hb hx)
    · obtain ⟨sl, e1⟩ := I.base.slot b o e n hb hx;exact ⟨sl, (hs.2 b (Nat.ne_of_lt (Nat.lt_of_lt_of_le (Heap.lt_size e) I.ok.above))).trans e1⟩
    · obtain ⟨o', e1⟩ := I.base.there b o e hx;exact ⟨o', (hs.2 b (Nat.ne_of_lt (Nat.lt_of_lt_of_le (Heap.lt_size e) I.ok.above))).trans e1⟩
    · by_cases hj : j = i
      · subst hj;rw [hi] at e1; cases e1;rw [List.getElem?_set_self hiσ] at e2;cases e2;exact ⟨u, r, .inl ⟨hk, by simp⟩⟩
      · rw [List.getElem?_set_ne (Ne.symm hj)] at e2;obtain ⟨u', r', q⟩ := hl j y v' e1 e2 e3;refine ⟨u', r', ?_⟩;rcases q with ⟨k, e⟩ | ⟨k, c, e, z⟩
        · refine .inl ⟨k, ?_⟩;have : y ≠ x := fun e => hj (nodup_ix hN e1 (e ▸ hi))
          simp [this, e]
        · exact .inr ⟨k, c, e, z.sameBut hs (cne y c e)⟩
    · obtain ⟨w', z⟩ := I.cell y c e;exact ⟨w', z.sameBut hs (cne y c e)⟩
    · obtain ⟨e, n, ne, nf, d⟩ := I.pin p hp;exact ⟨(hs.2 p.1 ne).trans e, n, ne, nf, d⟩
  · have hfn : X.fn x = true := by
      rcases hf with z | z
      · exact z
      · rw [z] at hk; cases hk
    obtain ⟨c, hc⟩ := I.ok.has x (.inl hk);obtain ⟨w', z⟩ := I.cell x c hc;refine wpAny_storeName_cell I.ok.kind hk hc z (fun h' hc' hs => ?_);obtain ⟨oc, hoc, hocd⟩ := id z;refine h { s with heap := h' } ⟨I.ok, I.os, I.bare, ⟨fun b o e n hb hx => ?_, fun b o e n hb hx => ?_, I.base.free, fun b o e hx => ?_, I.base.tups, I.base.frzs, I.base.tbls⟩, ⟨m, hn.sameBut hs (Ne.symm (cne x c hc)), fun j y v' e1 e2 e3 => ?_⟩, fun y c' e => ?_, I.free, I.freeC, fun p hp => ?_, tracked ⟨oc, hoc, I.freeC x c hc⟩ hs, by simpa using I.len⟩ ⟨c, hs, .inr hc⟩
    · exact (hs.2 b (Nat.ne_of_lt (Nat.lt_of_lt_of_le (Heap.lt_size e) (I.ok.cab x c hfn hc)))).trans (I.base.keep b o e n hb hx)
    · obtain ⟨sl, e1⟩ := I.base.slot b o e n hb hx;exact ⟨sl, (hs.2 b (Nat.ne_of_lt (Nat.lt_of_lt_of_le (Heap.lt_size e) (I.ok.cab x c hfn hc)))).trans e1⟩
    · obtain ⟨o', e1⟩ := I.base.there b o e hx;exact ⟨o', (hs.2 b (Nat.ne_of_lt (Nat.lt_of_lt_of_le (Heap.lt_size e) (I.ok.cab x c hfn hc)))).trans e1⟩
    · by_cases hj : j = i
      · subst hj;rw [hi] at e1; cases e1;rw [List.getElem?_set_self hiσ] at e2;cases e2;exact ⟨u, r, .inr ⟨.inl hk, c, hc, hc'⟩⟩
      · rw [List.getElem?_set_ne (Ne.symm hj)] at e2;obtain ⟨u', r', q⟩ := hl j y v' e1 e2 e3;refine ⟨u', r', ?_⟩;rcases q with q | ⟨k, c', e, z'⟩
        · exact .inl q
        · refine .inr ⟨k, c', e, z'.sameBut hs ?_⟩;rintro rfl;exact hj (nodup_ix hN e1 (I.ok.inj _ _ _ e hc ▸ hi))
    · by_cases hcc : c' = c
      · subst hcc; exact ⟨_, hc'⟩
      · obtain ⟨w2, z2⟩ := I.cell y c' e;exact ⟨w2, z2.sameBut hs hcc⟩
    · obtain ⟨e, n, ne, nf, d⟩ := I.pin p hp;refine ⟨(hs.2 p.1 ?_).trans e, n, ne, nf, d⟩;intro q;rw [q, hoc] at e;have q' : oc = p.2 := Option.some.inj e;exact d w' (by rw [<- q']; exact hocd)
theorem store_ok {M : Model} {A : Around} {E : Value -> Shared -> Prop} {i : Nat} {x : Str} {v : V} {u : Value} {Q : Unit -> Shared -> Prop} (I : Inv X pins σ H s) (hN : X.N.Nodup) (hi : X.N[i]? = some x) (hx : Loc X.env.scope x) (r : RelV v u)
    (h : ∀ s', Inv X pins (σ.set i (some v)) H s' -> Q () s') (hf : X.fn x = true \/ X.env.scope.names.lookup x = some .local := by first | exact .inl rfl | exact .inr rfl | assumption) : wpAny M A (storeName X.env x u) Q E s :=
  store_ok2 I hN hi hx r (fun s' I' _ => h s' I') hf
theorem Inv.call' {s' : Shared} {ch : List Addr} (I : Inv X pins σ H s) (ho : s'.os = s.os) (u : Un (frs X.stack) ch H H' s.heap s'.heap) (hok : HOk X.prog X.w H' s'.heap) (hg : AllBare s'.gens)
    (hch : ∀ b ∈ ch, (b ∈ X.ex \/ X.s_0.heap.objs.size <= b) /\ b ≠ X.env.locals /\ (∀ x c, X.env.cells.lookup x = some c -> c ≠ b) /\ ∀ p ∈ X.pn ++ pins, p.1 ≠ b) : Inv X pins σ H' s' := by
  obtain ⟨h', g', d', t', o'⟩ := s';have e : o' = s.os := ho;subst e;exact I.call (g' := g') (t' := t') (d' := d') u hok hg hch
end
abbrev XK := Value -> Option Addr -> Hp -> Prop
abbrev St := List (Option V)
abbrev VK := V -> Hp -> Prop
abbrev TE := St -> Hp -> VK -> Prop
abbrev TT := St -> Hp -> (Bool -> Hp -> Prop) -> Prop
abbrev TA := St -> Hp -> (List V -> Hp -> Prop) -> Prop
structure Ends where
  nx : St -> Hp -> Prop
  rt : VK
  bk : St -> Hp -> Prop := fun _ _ => False
  ct : St -> Hp -> Prop := fun _ _ => False
abbrev TS := Ends -> St -> Hp -> Prop
def EP (X : Cx) (pins : List (Addr × Obj)) (σ : St) (Q : VK) (u : Value) (s' : Shared) : Prop := ∃ v H', Inv X pins σ H' s' /\ RelV v u /\ Q v H'
def TP (X : Cx) (pins : List (Addr × Obj)) (σ : St) (Q : Bool -> Hp -> Prop) (b : Bool) (s' : Shared) : Prop := ∃ H', Inv X pins σ H' s' /\ Q b H'
def AP (X : Cx) (pins : List (Addr × Obj)) (σ : St) (Q : List V -> Hp -> Prop) (us : List Value) (s' : Shared) : Prop := ∃ vs H', Inv X pins σ H' s' /\ Vals vs us /\ Q vs H'
def SP (X : Cx) (pins : List (Addr × Obj)) (D : Ends) (f : Flow) (s' : Shared) : Prop :=
  match f with
  | .next => ∃ σ' H', Inv X pins σ' H' s' /\ D.nx σ' H'
  | .brk => ∃ σ' H', Inv X pins σ' H' s' /\ D.bk σ' H'
  | .cont => ∃ σ' H', Inv X pins σ' H' s' /\ D.ct σ' H'
  | .ret u => ∃ v σ' H', Inv X pins σ' H' s' /\ RelV v u /\ D.rt v H'
def PE (X : Cx) (e : Expr) (t : TE) : Prop :=
  ∀ (pins : List (Addr × Obj)) (s : Shared) (σ : St) (H : Hp) (Q : VK), Inv X pins σ H s -> t σ H Q -> wpAny (model X.prog X.w) X.A (eval e X.env) (EP X pins σ Q) X.xe s
def PT (X : Cx) (e : Expr) (t : TT) : Prop :=
  ∀ (pins : List (Addr × Obj)) (s : Shared) (σ : St) (H : Hp) (Q : Bool -> Hp -> Prop), Inv X pins σ H s -> t σ H Q -> wpAny (model X.prog X.w) X.A (isTrue e X.env (eval e X.env)) (TP X pins σ Q) X.xe s
def PW (X : Cx) (e : Expr) (t : TT) : Prop :=
  ∀ (whole : Sem Value) (pins : List (Addr × Obj)) (s : Shared) (σ : St) (H : Hp) (Q : Bool -> Hp -> Prop), Inv X pins σ H s -> t σ H Q -> wpAny (model X.prog X.w) X.A (isTrue e X.env whole) (TP X pins σ Q) X.xe s
theorem PW.pt {X : Cx} {e : Expr} {t : TT} (h : PW X e t) : PT X e t := h _
def PA (X : Cx) (es : List Expr) (t : TA) : Prop :=
  ∀ (pos : Pos) (pins : List (Addr × Obj)) (s : Shared) (σ : St) (H : Hp) (Q : List V -> Hp -> Prop), Inv X pins σ H s -> t σ H Q -> wpAny (model X.prog X.w) X.A (spliced (backTo pos (starEach es X.env))) (AP X pins σ Q) X.xe s
def PS (X : Cx) (st : Stmt) (t : TS) : Prop :=
  ∀ (pins : List (Addr × Obj)) (s : Shared) (σ : St) (H : Hp) (D : Ends), Inv X pins σ H s -> t D σ H -> wpAny (model X.prog X.w) X.A (exec st X.env) (SP X pins D) X.xe s
def PSs (X : Cx) (st : List Stmt) (t : TS) : Prop :=
  ∀ (pins : List (Addr × Obj)) (s : Shared) (σ : St) (H : Hp) (D : Ends), Inv X pins σ H s -> t D σ H -> wpAny (model X.prog X.w) X.A (execs st X.env) (SP X pins D) X.xe s
theorem thn {α : Type} {t : Sem α} {Q Q' : α -> Shared -> Prop} {M : Model} {A : Around} {E : Value -> Shared -> Prop} {s : Shared} (h : wpAny M A t Q E s) (hQ : ∀ a s, Q a s -> Q' a s) : wpAny M A t Q' E s := wpAny_mono h hQ fun _ _ x => x
end L2
namespace L2
open PySem PySem.Spec PyProof.Rows
section
variable {X : Cx}
def tVar (i : Nat) : TE := fun σ H Q => ∃ v, σ[i]? = some (some v) /\ Q v H
def tC (v : V) : TE := fun _ H Q => Q v H
theorem pe_var {i : Nat} {x : Str} {pos : Pos} (hN : X.N[i]? = some x) (hv : Vis X.env.scope x) (hd : (x == ("__debug__" : Str)) = false := by decide) (hcd : (x == ("__classdict__" : Str)) = false := by decide) : PE X (.Name x pos) (tVar i) := by
  intro pins s σ H Q I h;obtain ⟨v, e, h⟩ := h;obtain ⟨m, hn, hl⟩ := I.loc;obtain ⟨u, r, l⟩ := hl i x v hN e hv;have fin : EP X pins σ Q u s := ⟨v, H, I, r, h⟩;rcases l with ⟨hk, hm⟩ | ⟨hk, c, hc, hcell⟩
  · exact wpAny_Name (wpAny_loadName_local I.ok.kind hk hn hm fin) hd
  · rcases hk with hk | hk
    · exact wpAny_Name (wpAny_loadName_cell I.ok.kind hk hc hcell fin) hd
    · exact wpAny_Name (wpAny_loadName_free I.ok.kind hk hc hcell fin hcd) hd
theorem y2 {i j pos} : PE X (.Constant (.int i) j pos) (tC (.int i)) := fun _ _ _ H _ I h => wpAny_Constant_int ⟨.int i, H, I.tok _, ⟨_, rfl⟩, h⟩
theorem pe_bl {b j pos} : PE X (.Constant (.bool b) j pos) (tC (.bl b)) := fun _ _ _ H _ I h => Constant_bool ⟨.bl b, H, I, rfl, h⟩
theorem Z7 {j pos} : PE X (.Constant .none j pos) (tC .non) := fun _ _ _ H _ I h => Constant_none ⟨.non, H, I, rfl, h⟩
theorem W5 {x j pos} : PE X (.Constant (.str x) j pos) (tC (.str x)) := fun _ _ _ H _ I h => Calls.Constant_str ⟨.str x, H, I.tok _, ⟨_, rfl⟩, h⟩
def Gl (X : Cx) (x : Str) : Prop := X.env.kindOf x = some .globalImplicit
theorem ld_glob {E : Value -> Shared -> Prop} {pins : List (Addr × Obj)} {s : Shared} {σ : St} {H : Hp} {x : Str} {u : Value} {pos : Pos} {Q : Value -> Shared -> Prop} (I : Inv X pins σ H s) (hg : Gl X x) (hm : X.mg x = some u) (h : Q u s)
    (hd : (x == ("__debug__" : Str)) = false := by decide) : wpAny (model X.prog X.w) X.A (eval (.Name x pos) X.env) Q E s :=
  Calls.Name_function_global I.ok.kind hg (Calls.loadGlobal_global (by rw [I.ok.glob]; exact I.mod.glob.keeps I.bk) hm h) hd
theorem ld_blt {E : Value -> Shared -> Prop} {pins : List (Addr × Obj)} {s : Shared} {σ : St} {H : Hp} {x : Str} {u : Value} {pos : Pos} {Q : Value -> Shared -> Prop} (I : Inv X pins σ H s) (hg : Gl X x) (hm : X.mg x = none) (hv : bootBuiltins x = some u) (h : Q u s)
    (hn : x ≠ "__name__" := by decide) (hd : (x == ("__debug__" : Str)) = false := by decide) : wpAny (model X.prog X.w) X.A (eval (.Name x pos) X.env) Q E s := by
  obtain ⟨mb, h1, h2⟩ := I.mod.blt;exact Calls.Name_function_global I.ok.kind hg (Calls.loadGlobal_builtin (by rw [I.ok.glob]; exact I.mod.glob.keeps I.bk) hm (by rw [I.ok.blt]; exact h1.keeps I.bk) ((h2 x hn).trans hv) h) hd
theorem pe_glob {x : Str} {v : V} {u : Value} {pos : Pos} (hg : Gl X x) (hm : X.mg x = some u) (r : RelV v u) (hd : (x == ("__debug__" : Str)) = false := by decide) : PE X (.Name x pos) (tC v) :=
  fun _ _ _ H _ I h => ld_glob I hg hm ⟨v, H, I, r, h⟩ hd
variable {a b : Expr} {ta tb : TE} {pos : Pos}
def PC (X : Cx) (op : CmpOp) (a b : Expr) (t : TE) : Prop :=
  ∀ (pins : List (Addr × Obj)) (s : Shared) (σ : St) (H : Hp) (Q : VK), Inv X pins σ H s -> t σ H Q ->
    wpAny (model X.prog X.w) X.A (eval a X.env) (fun v s₁ => wpAny (model X.prog X.w) X.A (eval b X.env) (fun u s₂ => wpAny (model X.prog X.w) X.A (compareOp op v u) (EP X pins σ Q) X.xe s₂) X.xe s₁) X.xe s
theorem nobehind (b : Expr) {op : CmpOp} (h : op ≠ .In) (h2 : op ≠ .NotIn) : behindInMarks op b = false := by
  have e1 : (op == CmpOp.In) = false := by cases op <;> first | rfl | exact absurd rfl h
  have e2 : (op == CmpOp.NotIn) = false := by cases op <;> first | rfl | exact absurd rfl h2
  cases b <;> simp [behindInMarks, e1, e2]
def tIsN (ta : TE) : TE := fun σ H Q => ta σ H fun x H1 => Q (.bl (decide (x = .non))) H1
def tNotN (ta : TE) : TE := fun σ H Q => ta σ H fun x H1 => Q (.bl (!decide (x = .non))) H1
theorem RelV.none_iff {x : V} {v : Value} (r : RelV x v) : (v == Value.none) = decide (x = .non) := by
  cases x with
  | non => cases r; rfl
  | bl _ => cases r; rfl
  | int _ => obtain ⟨t, rfl⟩ := r; rfl
  | str _ => obtain ⟨t, rfl⟩ := r; rfl
  | byt _ => obtain ⟨t, rfl⟩ := r; rfl
  | flt _ => obtain ⟨t, rfl⟩ := r; rfl
  | ref _ => cases r; rfl
  | ty _ => cases r; rfl
theorem Z1 {j pos'} (ha : PE X a ta) : PC X .Is a (.Constant .none j pos') (tIsN ta) := by
  intro pins s σ H Q I h;refine thn (ha pins s σ H _ I h) fun v s1 ⟨x, H1, I1, r1, q1⟩ => ?_
  exact Constant_none (is_none_gen ⟨.bl _, H1, I1, by rw [r1.none_iff]; rfl, q1⟩)
theorem pc_notN {j pos'} (ha : PE X a ta) : PC X .IsNot a (.Constant .none j pos') (tNotN ta) := by
  intro pins s σ H Q I h;refine thn (ha pins s σ H _ I h) fun v s1 ⟨x, H1, I1, r1, q1⟩ => ?_
  exact Constant_none (isnot_none_gen ⟨.bl _, H1, I1, by rw [r1.none_iff]; rfl, q1⟩)
def tB (t : TE) : TT := fun σ H Q => t σ H fun x H1 => ∃ c, x = .bl c /\ Q c H1
theorem pe_cmp {op : CmpOp} {t : TE} (h : PC X op a b t) (h1 : behindInMarks op b = false := by first | exact nobehind _ (by decide) (by decide) | rfl) : PE X (.Compare a [op] [b] pos) t := fun pins s σ H Q I hw => wpAny_Compare1 (h pins s σ H Q I hw) h1
theorem W2 {op : CmpOp} {t : TE} (h : PC X op a b t) (h1 : behindInMarks op b = false := by first | exact nobehind _ (by decide) (by decide) | rfl) : PT X (.Compare a [op] [b] pos) (tB t) := by
  intro pins s σ H Q I hw;refine wpAny_isTrue_Compare1 (thn (h pins s σ H _ I hw) fun v s1 h1 => thn h1 fun u s2 h2 => thn h2 fun c s3 ⟨x, H1, I1, r1, q1⟩ => ?_) h1;obtain ⟨d, rfl, q⟩ := q1;cases r1;exact wpAny_truthy_bool ⟨H1, I1, q⟩
theorem x5 {e : Expr} {t : TE} (h : PE X e t) (he : ∀ whole, isTrue e X.env whole = (do let v <- whole; standAt e.pos; holding [v] (truthy v)) := by intro _; rfl) : PT X e (tB t) := by
  intro pins s σ H Q I hw;refine isTrue_plain (thn (h pins s σ H _ I hw) fun v s1 ⟨x, H1, I1, r1, q1⟩ => ?_) (he _);obtain ⟨d, rfl, q⟩ := q1;cases r1;exact wpAny_truthy_bool ⟨H1, I1, q⟩
variable {tA tB' : TT} {rest : List Expr}
def tAnd (t u : TT) : TT := fun σ H Q => t σ H fun c H1 => if c = true then u σ H1 Q else Q false H1
def tOr (t u : TT) : TT := fun σ H Q => t σ H fun c H1 => if c = true then Q true H1 else u σ H1 Q
def tNot (t : TT) : TT := fun σ H Q => t σ H fun c H1 => Q (!c) H1
theorem pw_and1 (ha : PT X a tA) : PW X (.BoolOp .And [a] pos) tA := by
  intro wh pins s σ H Q I h;refine isTrue_and (thn (ha pins s σ H Q I h) fun c s1 e => ?_);cases c with
  | true => exact isTrue_and_nil e
  | false => exact e
theorem pw_or1 (ha : PT X a tA) : PW X (.BoolOp .Or [a] pos) tA := by
  intro wh pins s σ H Q I h;refine isTrue_or (thn (ha pins s σ H Q I h) fun c s1 e => ?_);cases c with
  | false => exact isTrue_or_nil e
  | true => exact e
theorem pw_and (ha : PT X a tA) (hb : PW X (.BoolOp .And (b :: rest) pos) tB') : PW X (.BoolOp .And (a :: b :: rest) pos) (tAnd tA tB') := by
  intro wh pins s σ H Q I h;refine isTrue_and (thn (ha pins s σ H _ I h) fun c s1 ⟨H1, I1, q1⟩ => ?_);cases c with
  | true => exact hb wh pins s1 σ H1 Q I1 q1
  | false => exact ⟨H1, I1, q1⟩
theorem pw_or (ha : PT X a tA) (hb : PW X (.BoolOp .Or (b :: rest) pos) tB') : PW X (.BoolOp .Or (a :: b :: rest) pos) (tOr tA tB') := by
  intro wh pins s σ H Q I h;refine isTrue_or (thn (ha pins s σ H _ I h) fun c s1 ⟨H1, I1, q1⟩ => ?_);cases c with
  | true => exact ⟨H1, I1, q1⟩
  | false => exact hb wh pins s1 σ H1 Q I1 q1
theorem Q9 (ha : PT X a tA) : PT X (.UnaryOp .Not a pos) (tNot tA) := by
  intro pins s σ H Q I h;exact isTrue_not (ha pins s σ H (fun c H1 => Q (!c) H1) I h)
def tAndV (ta tb : TE) : TE := fun σ H Q => ta σ H fun x H1 => ∃ c, x = .bl c /\ if c = true then tb σ H1 Q else Q (.bl false) H1
def tOrV (ta tb : TE) : TE := fun σ H Q => ta σ H fun x H1 => ∃ c, x = .bl c /\ if c = true then Q (.bl true) H1 else tb σ H1 Q
def tNotV (ta : TE) : TE := fun σ H Q => ta σ H fun x H1 => ∃ c, x = .bl c /\ Q (.bl (!c)) H1
theorem pe_one {op} {t : TE} (h : PE X a t) : PE X (.BoolOp op [a] pos) t := fun pins s σ H Q I hw => BoolOp_one (h pins s σ H Q I hw)
theorem pe_and (ha : PE X a ta) (hb : PE X (.BoolOp .And (b :: rest) pos) tb) : PE X (.BoolOp .And (a :: b :: rest) pos) (tAndV ta tb) := by
  intro pins s σ H Q I h;refine BoolOp_and (thn (ha pins s σ H _ I h) fun v s1 ⟨x, H1, I1, r1, q1⟩ => ?_);obtain ⟨c, rfl, q1⟩ := q1;cases r1;refine wpAny_truthy_bool ?_;cases c with
  | true => exact hb pins s1 σ H1 Q I1 q1
  | false => exact ⟨.bl false, H1, I1, rfl, q1⟩
theorem pe_or (ha : PE X a ta) (hb : PE X (.BoolOp .Or (b :: rest) pos) tb) : PE X (.BoolOp .Or (a :: b :: rest) pos) (tOrV ta tb) := by
  intro pins s σ H Q I h;refine BoolOp_or (thn (ha pins s σ H _ I h) fun v s1 ⟨x, H1, I1, r1, q1⟩ => ?_);obtain ⟨c, rfl, q1⟩ := q1;cases r1;refine wpAny_truthy_bool ?_;cases c with
  | false => exact hb pins s1 σ H1 Q I1 q1
  | true => exact ⟨.bl true, H1, I1, rfl, q1⟩
theorem pe_not (ha : PE X a ta) : PE X (.UnaryOp .Not a pos) (tNotV ta) := by
  intro pins s σ H Q I h;refine UnaryOp_ (thn (ha pins s σ H _ I h) fun v s1 ⟨x, H1, I1, r1, q1⟩ => ?_);obtain ⟨c, rfl, q1⟩ := q1;cases r1;exact not_of (wpAny_truthy_bool ⟨.bl (!c), H1, I1, rfl, q1⟩)
end
end L2
namespace L2
open PySem PySem.Spec PyProof.Rows
def SqL (K : PySem.W.Frag) (H : Hp) (a : Addr) (xs : List V) : Prop :=
  Rd H a (.lst xs) \/
    ∃ (o : Obj) (its : Array Value) (n : Nat), K.lookup a = some o /\ o.cls = .type "list" /\ o.dict = none /\ o.data = .seq its n /\ its.size <= sizeLine /\ Vals xs its.toList
def SqT (K : PySem.W.Frag) (H : Hp) (a : Addr) (xs : List V) : Prop :=
  Rd H a (.tup xs) \/
    ∃ (o : Obj) (its : Array Value) (n : Nat), K.lookup a = some o /\ o.cls = .type "tuple" /\ o.data = .seq its n /\ its.size <= sizeLine /\ Vals xs its.toList
def absV : Value -> Option V
  | .none => some .non
  | .bool b => some (.bl b)
  | .int i _ => some (.int i)
  | .str x _ => some (.str x)
  | .bytes b _ => some (.byt b)
  | .float b _ => some (.flt b)
  | .ref a => some (.ref a)
  | .type n => some (.ty n)
  | _ => none
theorem RelV.abs {x : V} {u : Value} (r : RelV x u) : absV u = some x := by
  cases x with
  | non => cases r; rfl
  | bl _ => cases r; rfl
  | int _ => obtain ⟨t, rfl⟩ := r; rfl
  | str _ => obtain ⟨t, rfl⟩ := r; rfl
  | byt _ => obtain ⟨t, rfl⟩ := r; rfl
  | flt _ => obtain ⟨t, rfl⟩ := r; rfl
  | ref _ => cases r; rfl
  | ty _ => cases r; rfl
theorem RelV.inj {x y : V} {u : Value} (r : RelV x u) (q : RelV y u) : x = y := Option.some.inj (r.abs.symm.trans q.abs)
theorem Vals.inj : ∀ {xs ys : List V} {us : List Value}, Vals xs us -> Vals ys us -> xs = ys
  | _, _, _, .nil, .nil => rfl
  | _, _, _, .cons r t, .cons r' t' => by rw [r.inj r', Vals.inj t t']
section
variable {X : Cx} {pins : List (Addr × Obj)} {σ : St} {H : Hp} {s : Shared} {a : Addr} {xs ys : List V}
theorem SqL.of {K : PySem.W.Frag} (h : H a = some (.lst xs)) : SqL K H a xs := .inl (.inl h)
theorem SqT.of {K : PySem.W.Frag} (h : H a = some (.tup xs)) : SqT K H a xs := .inl (.inl h)
theorem Inv.list (I : Inv X pins σ H s) (h : SqL X.K H a xs) : ∃ its : List Value, Vals xs its /\ PlainL s.heap a its.toArray /\ xs.length <= sizeLine := by
  rcases h with h | ⟨o, its, n, hk, hc, hd, hs, hz, r⟩
  · obtain ⟨z, its, n, r, e⟩ := h.ok I.hok;exact ⟨its, r, ⟨_, n, e, rfl, rfl, rfl⟩, z⟩
  · refine ⟨its.toList, r, ⟨o, n, I.kIn a o hk, hc, hd, by simpa using hs⟩, ?_⟩;have e := r.length;simp only [Array.length_toList] at e;omega
theorem Inv.tuple (I : Inv X pins σ H s) (h : SqT X.K H a xs) : ∃ its : List Value, Vals xs its /\ IsTup s.heap a its.toArray /\ xs.length <= sizeLine := by
  rcases h with h | ⟨o, its, n, hk, hc, hs, hz, r⟩
  · obtain ⟨z, its, r, p⟩ := h.ok I.hok;exact ⟨its, r, p, z⟩
  · refine ⟨its.toList, r, ⟨o, I.kIn a o hk, hc, n, by simpa using hs⟩, ?_⟩;have e := r.length;simp only [Array.length_toList] at e;omega
theorem Inv.list_inj (I : Inv X pins σ H s) (h : SqL X.K H a xs) (h' : SqL X.K H a ys) : xs = ys := by
  obtain ⟨its, r, ⟨o, n, e, _, _, d⟩, _⟩ := I.list h;obtain ⟨its', r', ⟨o', n', e', _, _, d'⟩, _⟩ := I.list h';rw [e] at e'; cases e';rw [d] at d';injection d' with d1 _
  have : its = its' := by simpa using congrArg Array.toList d1
  subst this;exact r.inj r'
theorem Inv.tuple_inj (I : Inv X pins σ H s) (h : SqT X.K H a xs) (h' : SqT X.K H a ys) : xs = ys := by
  obtain ⟨its, r, ⟨o, e, _, n, d⟩, _⟩ := I.tuple h;obtain ⟨its', r', ⟨o', e', _, n', d'⟩, _⟩ := I.tuple h';rw [e] at e'; cases e';rw [d] at d';injection d' with d1 _
  have : its = its' := by simpa using congrArg Array.toList d1
  subst this;exact r.inj r'
end
abbrev Cx.wish (X : Cx) (E : Value -> Shared -> Prop) : Cx := { X with xe := E }
abbrev Cx.nox (X : Cx) : Cx := X.wish fun _ _ => False
theorem Cx.Ok.wish {X : Cx} (ok : X.Ok) (E : Value -> Shared -> Prop) : (X.wish E).Ok :=
  ⟨ok.mod, ok.kind, ok.glob, ok.blt, ok.above, ok.inj, ok.has, ok.cab, ok.hd, ok.frames, ok.stk, ok.exf, ok.bs, ok.bsz, ok.noex, ok.exfs, ok.funs, ok.frf⟩
theorem Cx.Ok.unwish {X : Cx} {E : Value -> Shared -> Prop} (ok : (X.wish E).Ok) : X.Ok :=
  ⟨ok.mod, ok.kind, ok.glob, ok.blt, ok.above, ok.inj, ok.has, ok.cab, ok.hd, ok.frames, ok.stk, ok.exf, ok.bs, ok.bsz, ok.noex, ok.exfs, ok.funs, ok.frf⟩
section
variable {X : Cx} {pins : List (Addr × Obj)} {σ : St} {H : Hp} {s : Shared} {E : Value -> Shared -> Prop}
theorem Inv.wish (I : Inv X pins σ H s) (E : Value -> Shared -> Prop) : Inv (X.wish E) pins σ H s := ⟨I.ok.wish E, I.os, I.bare, I.base, I.loc, I.cell, I.free, I.freeC, I.pin, I.hok, I.len⟩
theorem Inv.unwish (I : Inv (X.wish E) pins σ H s) : Inv X pins σ H s := ⟨I.ok.unwish, I.os, I.bare, I.base, I.loc, I.cell, I.free, I.freeC, I.pin, I.hok, I.len⟩
theorem SP.unwish {D : Ends} {f : Flow} {s' : Shared} (h : SP (X.wish E) pins D f s') : SP X pins D f s' := by
  cases f with
  | next => obtain ⟨σ', H', I, q⟩ := h; exact ⟨σ', H', I.unwish, q⟩
  | brk => obtain ⟨σ', H', I, q⟩ := h; exact ⟨σ', H', I.unwish, q⟩
  | cont => obtain ⟨σ', H', I, q⟩ := h; exact ⟨σ', H', I.unwish, q⟩
  | ret u => obtain ⟨v, σ', H', I, r, q⟩ := h; exact ⟨v, σ', H', I.unwish, r, q⟩
theorem PE.nox {e : Expr} {t : TE} (h : PE X.nox e t) : PE X e t := fun pins s σ H Q I hw =>
  wpAny_mono (h pins s σ H Q (I.wish _) hw) (fun _ _ ⟨v, H', I', r, q⟩ => ⟨v, H', I'.unwish, r, q⟩) fun _ _ z => False.elim z
theorem PT.nox {e : Expr} {t : TT} (h : PT X.nox e t) : PT X e t := fun pins s σ H Q I hw =>
  wpAny_mono (h pins s σ H Q (I.wish _) hw) (fun _ _ ⟨H', I', q⟩ => ⟨H', I'.unwish, q⟩) fun _ _ z => False.elim z
theorem PSs.nox {st : List Stmt} {t : TS} (h : PSs X.nox st t) : PSs X st t := fun pins s σ H D I hw =>
  wpAny_mono (h pins s σ H D (I.wish _) hw) (fun _ _ q => q.unwish) fun _ _ z => False.elim z
end
section
variable {X : Cx} {st : Stmt} {rest : List Stmt} {t u : TS} {e : Expr} {te : TE} {pos : Pos}
def tNext : TS := fun D σ H => D.nx σ H
def tSeq (t u : TS) : TS := fun D σ H => t { D with nx := u D } σ H
theorem z0 : PSs X [] tNext := fun _ _ σ H _ I h => wpAny_execs_nil ⟨σ, H, I, h⟩
theorem w4 (h1 : PS X st t) (h2 : PSs X rest u) : PSs X (st :: rest) (tSeq t u) := by
  intro pins s σ H D I h;refine wpAny_execs_cons (thn (h1 pins s σ H { D with nx := u D } I h) fun f s1 q => ?_);cases f with
  | next =>
    obtain ⟨σ', H', I', q⟩ := q;exact h2 pins s1 σ' H' D I' q
  | ret v => exact q
  | brk => exact q
  | cont => exact q
theorem w8 (h1 : PS X st t) : PSs X [st] t := by
  intro pins s σ H D I h;refine wpAny_execs_cons (thn (h1 pins s σ H D I h) fun f s1 q => ?_);cases f with
  | next => exact wpAny_execs_nil q
  | ret v => exact q
  | brk => exact q
  | cont => exact q
theorem Inv.quiet {pins : List (Addr × Obj)} {σ : St} {H : Hp} {s : Shared} (I : Inv X pins σ H s) : interactive X.env = false := by simp [interactive, I.ok.kind]
def W9 (te : TE) : TS := fun D σ H => te σ H fun _ H1 => D.nx σ H1
theorem k8 (he : PE X e te) (hs : swapsWith e none pos.line X.env = pure false := by rfl) : PS X (.Expr e pos) (W9 te) := by
  intro pins s σ H D I h;exact wpAny_Expr_any (thn (he pins s σ H _ I h) fun v s1 ⟨x, H1, I1, r1, q1⟩ => ⟨σ, H1, I1, q1⟩) I.quiet hs
def tRet (te : TE) : TS := fun D σ H => te σ H D.rt
theorem y6 (he : PE X e te) : PS X (.Return (some e) pos) (tRet te) := by
  intro pins s σ H D I h;exact wpAny_Return_some (thn (he pins s σ H _ I h) fun v s1 ⟨x, H1, I1, r1, q1⟩ => ⟨x, σ, H1, I1, r1, q1⟩)
def tIfS (c : TT) (t u : TS) : TS := fun D σ H => c σ H fun b H1 => if b = true then t D σ H1 else u D σ H1
theorem j7 {c : Expr} {a b : List Stmt} {tc : TT} (hc : PT X c tc) (ha : PSs X a t) (hb : PSs X b u) : PS X (.If c a b pos) (tIfS tc t u) := by
  intro pins s σ H D I h;refine wpAny_If (thn (hc pins s σ H _ I h) fun d s1 ⟨H1, I1, q1⟩ => ?_);cases d with
  | true => exact ha pins s1 σ H1 D I1 q1
  | false => exact hb pins s1 σ H1 D I1 q1
end
abbrev TG := V -> St -> Hp -> (St -> Hp -> Prop) -> Prop
abbrev TGs := List V -> St -> Hp -> (St -> Hp -> Prop) -> Prop
def PG (X : Cx) (target : Expr) (t : TG) : Prop :=
  ∀ (pins : List (Addr × Obj)) (s : Shared) (σ : St) (H : Hp) (v : V) (u : Value) (Q : St -> Hp -> Prop), Inv X pins σ H s -> RelV v u -> t v σ H Q ->
    wpAny (model X.prog X.w) X.A (assign target X.env u) (fun _ s' => ∃ σ' H', Inv X pins σ' H' s' /\ Q σ' H') X.xe s
def PGs (X : Cx) (ts : List Expr) (t : TGs) : Prop :=
  ∀ (pins : List (Addr × Obj)) (s : Shared) (σ : St) (H : Hp) (vs : List V) (us : List Value) (Q : St -> Hp -> Prop), Inv X pins σ H s -> Vals vs us -> t vs σ H Q ->
    wpAny (model X.prog X.w) X.A (assignInOrder ((assignEach ts X.env).map (·.2)) us) (fun _ s' => ∃ σ' H', Inv X pins σ' H' s' /\ Q σ' H') X.xe s
section
variable {X : Cx} {pos : Pos}
def gName (i : Nat) : TG := fun v σ H Q => Q (σ.set i (some v)) H
theorem k9 {i : Nat} {x : Str} (hN : X.N.Nodup) (hi : X.N[i]? = some x) (hx : Loc X.env.scope x) (hf : X.fn x = true \/ X.env.scope.names.lookup x = some .local := by first | exact .inl rfl | exact .inr rfl | assumption) : PG X (.Name x pos) (gName i) := by
  intro pins s σ H v u Q I r h;exact wpAny_assign_Name (store_ok I hN hi hx r (fun s' I' => ⟨_, H, I', h⟩) hf)
def gNil : TGs := fun vs σ H Q => vs = [] /\ Q σ H
def gCons (t : TG) (u : TGs) : TGs := fun vs σ H Q => ∃ v r, vs = v :: r /\ t v σ H fun σ' H' => u r σ' H' Q
theorem pgs_nil : PGs X [] gNil := by
  intro pins s σ H vs us Q I r h;obtain ⟨e, h⟩ := h;subst e;cases r;exact assignInOrder_nil ⟨σ, H, I, h⟩
theorem W3 {e : Expr} {es : List Expr} {t : TG} {u : TGs} (h1 : PG X e t) (h2 : PGs X es u)
    (hs : (assignEach (e :: es) X.env).map (·.2) = assign e X.env :: (assignEach es X.env).map (·.2) := by rfl) : PGs X (e :: es) (gCons t u) := by
  intro pins s σ H vs us Q I r h;obtain ⟨v, vr, e1, h⟩ := h;subst e1;cases r with
  | cons r rr =>
    rw [hs];refine assignInOrder_cons (thn (h1 pins s σ H _ _ _ I r h) fun _ s1 ⟨σ1, H1, I1, q1⟩ => ?_);exact h2 pins s1 σ1 H1 _ _ Q I1 rr q1
def gTup (K : PySem.W.Frag) (n : Nat) (t : TGs) : TG := fun v σ H Q => ∃ a xs, v = .ref a /\ SqT K H a xs /\ xs.length = n /\ t xs σ H Q
theorem pg_tup {es : List Expr} {k : Nat} {t : TGs} {n : Nat} (hc : X.calm = true) (h : PGs X es t)
    (hn : (assignEach es X.env).length = n := by rfl) (hst : (assignEach es X.env).findIdx? (·.1) = none := by rfl) : PG X (.Tuple es k pos) (gTup X.K n t) := by
  intro pins s σ H v u Q I r hw;obtain ⟨a, xs, e1, hq, hl, hw⟩ := hw;subst e1;cases r;obtain ⟨its, rv, ht, hz⟩ := I.tuple hq;refine assign_Tuple_tuple (I.ok.hd hc) ht (by simp [hn, <- hl, rv.length]) hst fun h' hx => ?_
  have I1 : Inv X pins σ H { s with heap := h' } := I.kept (t' := s.toks) fun b o e => hx b o (Nat.ne_of_lt (Heap.lt_size e)) e
  exact h pins _ σ H xs _ Q I1 (by simpa using rv) hw
def tAsg (te : TE) (g : TG) : TS := fun D σ H => te σ H fun x H1 => g x σ H1 D.nx
theorem z6 {i : Nat} {x : Str} {e : Expr} {te : TE} {pos' : Pos} (hN : X.N.Nodup) (hi : X.N[i]? = some x) (hx : Loc X.env.scope x) (he : PE X e te) (hs : swapsWith e (some (.Name x pos')) pos.line X.env = pure false := by rfl) (hf : X.fn x = true \/ X.env.scope.names.lookup x = some .local := by first | exact .inl rfl | exact .inr rfl | assumption) :
    PS X (.Assign [.Name x pos'] e pos) (tAsg te (gName i)) := by
  intro pins s σ H D I h;refine wpAny_Assign_Name (thn (he pins s σ H _ I h) fun v s1 ⟨y, H1, I1, r1, q1⟩ => ?_) hs;exact store_ok I1 hN hi hx r1 (fun s2 I2 => ⟨_, H1, I2, q1⟩) hf
end
section
variable {X : Cx} {pos : Pos}
def tWhile (c : TT) (tb : TS) : TS := fun D σ H => ∃ W : Nat -> St -> Hp -> Prop, (∃ m, W m σ H) /\ ∀ m σ H, W m σ H ->
  c σ H fun b H1 => if b = true then ∃ N : St -> Hp -> Prop, (∀ σ' H', N σ' H' -> ∃ m', m' < m /\ W m' σ' H') /\ tb { D with nx := N, ct := N, bk := D.nx } σ H1 else D.nx σ H1
theorem ps_while {c : Expr} {body : List Stmt} {tc : TT} {tb : TS} (hp : PassesOwn (model X.prog X.w) X.A X.env X.xe) (hc : PT X c tc) (hb : PSs X body tb) : PS X (.While c body [] pos) (tWhile tc tb) := by
  intro pins s σ H D I h;obtain ⟨W, ⟨m0, w0⟩, turn⟩ := h;refine wpAny_While (codeAny_whileLoop (fun n s' => ∃ σ' H', Inv X pins σ' H' s' /\ W n σ' H') ?_ m0 ⟨σ, H, I, w0⟩);rintro n s1 ⟨σ1, H1, I1, w1⟩;refine wpAny_passesOwn hp (thn (hc pins s1 σ1 H1 _ I1 (turn n σ1 H1 w1)) fun b s2 ⟨H2, I2, q2⟩ => ?_);cases b with
  | true =>
    obtain ⟨N, hN, q2⟩ := q2;rw [if_pos rfl];refine wpAny_passesOwn hp (thn (hb pins s2 σ1 H2 _ I2 q2) fun f s3 q3 => ?_);cases f with
    | next =>
      obtain ⟨σ3, H3, I3, n3⟩ := q3;obtain ⟨m', hm, w3⟩ := hN σ3 H3 n3;exact ⟨m', hm, σ3, H3, I3, w3⟩
    | cont =>
      obtain ⟨σ3, H3, I3, n3⟩ := q3;obtain ⟨m', hm, w3⟩ := hN σ3 H3 n3;exact ⟨m', hm, σ3, H3, I3, w3⟩
    | brk => exact q3
    | ret v => exact q3
  | false =>
    rw [if_neg Bool.false_ne_true];exact wpAny_execs_nil ⟨σ1, H2, I2, q2⟩
end
structure It where
  go : Nat -> Hp -> Prop
  yld : Nat -> Hp -> V -> Hp -> Prop
  stop : Nat -> Hp -> Prop
def FpOk (X : Cx) (pins : List (Addr × Obj)) (H : Hp) (b : Addr) : Prop :=
  H b = none /\ b ≠ X.env.locals /\ b ∉ X.fs /\ (b ∈ X.ex \/ X.s_0.heap.objs.size <= b) /\ (∀ x c, X.env.cells.lookup x = some c -> c ≠ b) /\ ∀ p ∈ X.pn ++ pins, p.1 ≠ b
theorem Inv.fpOk {X : Cx} {pins : List (Addr × Obj)} {σ : St} {H H' : Hp} {s : Shared} {b : Addr} (I : Inv X pins σ H s) (hb : s.heap.objs.size <= b) (hn : H' b = none) : FpOk X pins H' b := by
  refine ⟨hn, Nat.ne_of_gt (Nat.lt_of_lt_of_le I.lt hb), I.nofs hb, .inr (Nat.le_trans I.sz hb), fun x c e z => ?_, fun p hp z => ?_⟩
  · obtain ⟨v, q⟩ := I.cell x c e;exact absurd (Nat.lt_of_lt_of_le q.lt (by rw [z]; exact hb)) (Nat.lt_irrefl _)
  · exact absurd (Nat.lt_of_lt_of_le (Heap.lt_size (I.pin p hp).1) (by rw [z]; exact hb)) (Nat.lt_irrefl _)
structure Turn (P : Program) (w : World) (K : PySem.W.Frag) (tg : Expr) (J : It) (fp : List Addr) (it : Addr) (tn : Nat -> Heap -> Prop) : Prop where
  mem : it ∈ fp
  obj : ∀ i h, tn i h -> ∀ b ∈ fp, ∃ o, h.get? b = some o /\ ∀ v, o.data ≠ .cell v
  keep : ∀ i h h', tn i h -> (∀ b ∈ fp, ∀ o, h.get? b = some o -> h'.get? b = some o) -> tn i h'
  item : ∀ (X : Cx), X.prog = P -> X.w = w -> X.K = K -> X.calm = true -> ∀ (i : Nat) (pins : List (Addr × Obj)) (s : Shared) (σ : St) (H : Hp) (E : Value -> Shared -> Prop), Inv X pins σ H s -> (∀ b ∈ fp, FpOk X pins H b) -> tn i s.heap -> J.go i H ->
    wpAny (model P w) X.A (pyNext (.ref it)) (fun r s1 => ∃ u, r = some u /\
      wpAny (model P w) X.A (letOwnedTupleGo tg (.ref it) u) (fun _ s2 => ∃ x H', Inv X pins σ H' s2 /\ RelV x u /\ J.yld i H x H' /\ tn (i + 1) s2.heap /\ ∀ b ∈ fp, H' b = none) E s1) E s
  done : ∀ (X : Cx), X.prog = P -> X.w = w -> X.K = K -> X.calm = true -> ∀ (i : Nat) (pins : List (Addr × Obj)) (s : Shared) (σ : St) (H : Hp) (E : Value -> Shared -> Prop), Inv X pins σ H s -> (∀ b ∈ fp, FpOk X pins H b) -> tn i s.heap -> J.stop i H ->
    wpAny (model P w) X.A (pyNext (.ref it)) (fun r s1 => r = none /\ Inv X pins σ H s1) E s
  self : ∀ (A : Around) (i : Nat) (s : Shared) (Q : Value -> Shared -> Prop) (E : Value -> Shared -> Prop), tn i s.heap -> Q (.ref it) s -> wpAny (model P w) A (pyIter (.ref it)) Q E s
abbrev TI := St -> Hp -> (It -> Hp -> Prop) -> Prop
def PIE (X : Cx) (pins : List (Addr × Obj)) (σ : St) (tg : Expr) (R : It -> Hp -> Prop) (itv : Value) (s2 : Shared) : Prop :=
  ∃ (it : Addr) (fp : List Addr) (tn : Nat -> Heap -> Prop) (J : It) (H' : Hp), itv = .ref it /\ Inv X pins σ H' s2 /\ Turn X.prog X.w X.K tg J fp it tn /\ tn 0 s2.heap /\ (∀ b ∈ fp, FpOk X pins H' b) /\ R J H'
def PI (X : Cx) (tg iter : Expr) (wi : TI) : Prop :=
  ∀ (pins : List (Addr × Obj)) (s : Shared) (σ : St) (H : Hp) (R : It -> Hp -> Prop), Inv X pins σ H s -> wi σ H R ->
    wpAny (model X.prog X.w) X.A (eval iter X.env) (fun v s1 => wpAny (model X.prog X.w) X.A (pyIter v) (PIE X pins σ tg R) X.xe s1) X.xe s
theorem go_of {M : Model} {A : Around} {E : Value -> Shared -> Prop} {s : Shared} {tg : Expr} {it : Addr} {u : Value} {o : Obj} {n : String} {vs : Array Value} {Q : Unit -> Shared -> Prop} (ho : s.heap.get? it = some o) (hc : o.cls = .type n) (hd : o.data = .fields vs)
    (hn : ["enumerate", "zip", "dict_itemiterator", "dict_reverseitemiterator", "odict_iterator", "itertools.zip_longest", "itertools.pairwise"].contains n = false) (hQ : Q () s) : wpAny M A (letOwnedTupleGo tg (.ref it) u) Q E s := by
  unfold letOwnedTupleGo
  cases tg <;> first
    | exact wpAny_pure hQ
    | (cases u <;> first
        | exact wpAny_pure hQ
        | (refine wpAny_bind (wpAny_load ho ?_)
           rw [hc, hd];show wpAny M A (if (["enumerate", "zip", "dict_itemiterator", "dict_reverseitemiterator", "odict_iterator", "itertools.zip_longest", "itertools.pairwise"].contains n && vs[0]? == some (rawInt _)) = true then _ else _) Q E s;rw [if_neg (by intro h; rw [hn, Bool.false_and] at h; cases h)];exact wpAny_pure hQ))
def Itl (K : PySem.W.Frag) (a : Addr) : It :=
  ⟨fun i H => ∃ xs x, SqL K H a xs /\ xs[i]? = some x, fun i H x H' => H' = H /\ ∀ xs, SqL K H a xs -> xs[i]? = some x, fun i H => ∃ xs, SqL K H a xs /\ xs.length <= i⟩
def Itt (K : PySem.W.Frag) (a : Addr) : It :=
  ⟨fun i H => ∃ xs x, SqT K H a xs /\ xs[i]? = some x, fun i H x H' => H' = H /\ ∀ xs, SqT K H a xs -> xs[i]? = some x, fun i H => ∃ xs, SqT K H a xs /\ xs.length <= i⟩
def Itr (lo : Int) (n : Nat) : It := ⟨fun i _ => i < n, fun i H x H' => H' = H /\ x = .int (lo + i), fun i _ => n <= i⟩
theorem turn_list {P : Program} {w : World} {K : PySem.W.Frag} {tg : Expr} (a it : Addr) : Turn P w K tg (Itl K a) [it] it (fun i h => h.IsListIter it a i) where
  mem := by simp
  obj := fun i h st b hb => by
    have e : b = it := by simpa using hb
    subst e;obtain ⟨o, e, c, d⟩ := st;exact ⟨o, e, fun v z => by rw [d] at z; cases z⟩
  keep := fun i h h' st k => st.at fun o e => k it (by simp) o e
  item := by
    intro X hP hw hK hc i pins s σ H E I hf st hg;subst hP hw hK;obtain ⟨xs, x, hq, hx⟩ := hg;obtain ⟨its, rv, p, hz⟩ := I.list hq;obtain ⟨u, hu, ru⟩ := rv.get hx;obtain ⟨f0, f1, f2, f3, f4, f5⟩ := hf it (by simp);refine wpAny_pyNext_list_item st p.isList (x := u) (by simpa using hu) fun h' st' sb => ?_
    have I1 : Inv X pins σ H { s with heap := h' } := I.turned (t' := s.toks) (fun b o hb e => (sb.2 b hb).trans e) f0 f1 f3 f4 f5;obtain ⟨o, e, c, d⟩ := id st';exact ⟨u, rfl, go_of (s := { s with heap := h' }) e c d (by decide) ⟨x, H, I1, ru, ⟨rfl, fun ys hy => by rw [I.list_inj hy hq]; exact hx⟩, st', fun b hb => (hf b hb).1⟩⟩
  done := by
    intro X hP hw hK hc i pins s σ H E I hf st hg;subst hP hw hK;obtain ⟨xs, hq, hx⟩ := hg;obtain ⟨its, rv, p, hz⟩ := I.list hq;obtain ⟨f0, f1, f2, f3, f4, f5⟩ := hf it (by simp);have hl := rv.length;exact wpAny_pyNext_list_end (I.ok.hd hc) st p.isList (by simp; omega) fun h' eb => ⟨rfl, I.turned (t' := s.toks) (fun b o hb e => eb b o hb e) f0 f1 f3 f4 f5⟩
  self := fun _ _ _ _ _ st h => wpAny_pyIter_listiter st h
theorem turn_tuple {P : Program} {w : World} {K : PySem.W.Frag} {tg : Expr} (a it : Addr) : Turn P w K tg (Itt K a) [it] it (fun i h => h.IsTupleIter it a i) where
  mem := by simp
  obj := fun i h st b hb => by
    have e : b = it := by simpa using hb
    subst e;obtain ⟨o, e, c, d⟩ := st;exact ⟨o, e, fun v z => by rw [d] at z; cases z⟩
  keep := fun i h h' st k => st.at fun o e => k it (by simp) o e
  item := by
    intro X hP hw hK hc i pins s σ H E I hf st hg;subst hP hw hK;obtain ⟨xs, x, hq, hx⟩ := hg;obtain ⟨its, rv, p, hz⟩ := I.tuple hq;obtain ⟨u, hu, ru⟩ := rv.get hx;obtain ⟨f0, f1, f2, f3, f4, f5⟩ := hf it (by simp);refine wpAny_pyNext_tuple_item st (show s.heap.IsTuple a its.toArray from p) (x := u) (by simpa using hu) fun h' st' sb => ?_
    have I1 : Inv X pins σ H { s with heap := h' } := I.turned (t' := s.toks) (fun b o hb e => (sb.2 b hb).trans e) f0 f1 f3 f4 f5;obtain ⟨o, e, c, d⟩ := id st';exact ⟨u, rfl, go_of (s := { s with heap := h' }) e c d (by decide) ⟨x, H, I1, ru, ⟨rfl, fun ys hy => by rw [I.tuple_inj hy hq]; exact hx⟩, st', fun b hb => (hf b hb).1⟩⟩
  done := by
    intro X hP hw hK hc i pins s σ H E I hf st hg;subst hP hw hK;obtain ⟨xs, hq, hx⟩ := hg;obtain ⟨its, rv, p, hz⟩ := I.tuple hq;obtain ⟨f0, f1, f2, f3, f4, f5⟩ := hf it (by simp);have hl := rv.length;exact wpAny_pyNext_tuple_end (I.ok.hd hc) st (show s.heap.IsTuple a its.toArray from p) (by simp; omega) fun h' eb => ⟨rfl, I.turned (t' := s.toks) (fun b o hb e => eb b o hb e) f0 f1 f3 f4 f5⟩
  self := fun _ _ _ _ _ st h => wpAny_pyIter_tupleiter st h
theorem turn_range {P : Program} {w : World} {K : PySem.W.Frag} {tg : Expr} (it : Addr) (lo : Int) (n : Nat) : Turn P w K tg (Itr lo n) [it] it (fun i h => IsRangeIter h it (lo + (i : Nat) * 1) ((n : Int) - (i : Nat)) 1) where
  mem := by simp
  obj := fun i h st b hb => by
    have e : b = it := by simpa using hb
    subst e
    exact ⟨_, st, fun v z => by
      have z' : Data.fields _ = Data.cell v := z;cases z'⟩
  keep := fun i h h' st k => k it (by simp) _ st
  item := by
    intro X hP hw hK hc i pins s σ H E I hf st hg;subst hP hw hK;obtain ⟨f0, f1, f2, f3, f4, f5⟩ := hf it (by simp);have W := Walks.range (prog := X.prog) (w := X.w) (I.ok.hd hc) it lo 1 n;refine W.item i s _ _ hg st fun v h' tk hv st' kk => ?_
    obtain ⟨t, rfl⟩ := hv;have I1 : Inv X pins σ H { s with heap := h', toks := tk } := I.turned (fun b o hb e => kk b o (by simpa using hb) e) f0 f1 f3 f4 f5;refine ⟨_, rfl, go_of (s := { s with heap := h', toks := tk }) (n := "range_iterator") st' rfl rfl (by decide) ⟨.int (lo + i), H, I1, ⟨t, ?_⟩, ⟨rfl, rfl⟩, st', fun b hb => (hf b hb).1⟩⟩;rw [Int.mul_one]
  done := by
    intro X hP hw hK hc i pins s σ H E I hf st hg;subst hP hw hK;obtain ⟨f0, f1, f2, f3, f4, f5⟩ := hf it (by simp);exact wpAny_pyNext_range_end (I.ok.hd hc) st (by have : n <= i := hg; omega) fun h' eb => ⟨rfl, I.turned (t' := s.toks) (fun b o hb e => eb b o hb e) f0 f1 f3 f4 f5⟩
  self := fun _ _ _ _ _ st h => wpAny_pyIter_rangeiter st h
end L2
namespace L2
open PySem PySem.Spec PyProof.Rows
section
variable {X : Cx} {tg : Expr}
def iList (K : PySem.W.Frag) (tl : TE) : TI := fun σ H R => tl σ H fun x H1 => ∃ a, x = .ref a /\ (∃ xs, SqL K H1 a xs) /\ R (Itl K a) H1
def iTup (K : PySem.W.Frag) (tl : TE) : TI := fun σ H R => tl σ H fun x H1 => ∃ a, x = .ref a /\ (∃ xs, SqT K H1 a xs) /\ R (Itt K a) H1
theorem pi_list {l : Expr} {tl : TE} (hl : PE X l tl) : PI X tg l (iList X.K tl) := by
  intro pins s σ H R I h;refine thn (hl pins s σ H _ I h) fun v s1 ⟨x, H1, I1, r1, q1⟩ => ?_
  obtain ⟨a, e, ⟨xs, hq⟩, q⟩ := q1;subst e;cases r1;obtain ⟨its, rv, p, hz⟩ := I1.list hq;refine wpAny_pyIter_list p.isList ?_;refine ⟨s1.heap.objs.size, [s1.heap.objs.size], _, _, H1, rfl, I1.kept (t' := s1.toks) fun b o e => Heap.get?_push_of_some _ e, turn_list a _, ⟨_, Heap.get?_push_size _ rfl, rfl, rfl⟩, fun b hb => ?_, q⟩;have e : b = s1.heap.objs.size := by simpa using hb
  subst e;exact I1.fpOk (Nat.le_refl _) (I1.hok.fresh (Nat.le_refl _))
theorem pi_tup {l : Expr} {tl : TE} (hl : PE X l tl) : PI X tg l (iTup X.K tl) := by
  intro pins s σ H R I h;refine thn (hl pins s σ H _ I h) fun v s1 ⟨x, H1, I1, r1, q1⟩ => ?_
  obtain ⟨a, e, ⟨xs, hq⟩, q⟩ := q1;subst e;cases r1;obtain ⟨its, rv, p, hz⟩ := I1.tuple hq;refine wpAny_pyIter_tuple (show s1.heap.IsTuple a its.toArray from p) ?_;refine ⟨s1.heap.objs.size, [s1.heap.objs.size], _, _, H1, rfl, I1.kept (t' := s1.toks) fun b o e => Heap.get?_push_of_some _ e, turn_tuple a _, ⟨_, Heap.get?_push_size _ rfl, rfl, rfl⟩, fun b hb => ?_, q⟩;have e : b = s1.heap.objs.size := by simpa using hb
  subst e;exact I1.fpOk (Nat.le_refl _) (I1.hok.fresh (Nat.le_refl _))
theorem range_it {pins : List (Addr × Obj)} {σ : St} {H : Hp} {s : Shared} {R : It -> Hp -> Prop} {E : Value -> Shared -> Prop} {lo hi : Int} {t u v : Tok} {tk : Nat} (I : Inv X pins σ H s) (h1 : -(2 ^ 62) <= lo) (h2 : lo < 2 ^ 62) (h3 : -(2 ^ 62) <= hi) (h4 : hi < 2 ^ 62)
    (q : R (Itr lo (hi - lo).toNat) H) : wpAny (model X.prog X.w) X.A (pyIter (.ref s.heap.objs.size)) (PIE X pins σ tg R) E { s with heap := s.heap.push { cls := .type "range", data := .fields #[.int lo t, .int hi u, .int 1 v] }, toks := tk } := by
  refine wpAny_pyIter_range (IsRange.new ..) (small_one h1 h2 h3 h4) ?_;have I1 : Inv X pins σ H { s with heap := s.heap.push { cls := .type "range", data := .fields #[.int lo t, .int hi u, .int 1 v] }, toks := tk } := I.kept fun b o e => Heap.get?_push_of_some _ e
  refine ⟨(s.heap.push { cls := .type "range", data := .fields #[.int lo t, .int hi u, .int 1 v] }).objs.size, [(s.heap.push { cls := .type "range", data := .fields #[.int lo t, .int hi u, .int 1 v] }).objs.size], _, _, H, rfl,
    I1.kept (t' := tk) fun b o e => Heap.get?_push_of_some _ e, turn_range _ lo (hi - lo).toNat, ?_, fun b hb => ?_, q⟩
  · have e1 : lo + ((0 : Nat) : Int) * 1 = lo := by simp
    have e2 : (((hi - lo).toNat : Nat) : Int) - ((0 : Nat) : Int) = Builtin.Range.rangeSize lo hi 1 := by rw [rangeSize_one]; split <;> omega
    show IsRangeIter _ _ (lo + ((0 : Nat) : Int) * 1) ((((hi - lo).toNat : Nat) : Int) - ((0 : Nat) : Int)) 1;rw [e1, e2];exact Heap.get?_push_size _ rfl
  · have e : b = (s.heap.push { cls := .type "range", data := .fields #[.int lo t, .int hi u, .int 1 v] }).objs.size := by simpa using hb
    subst e;exact I1.fpOk (Nat.le_refl _) (I1.hok.fresh (Nat.le_refl _))
def iRng2 (ta : TA) : TI := fun σ H R => ta σ H fun vs H1 => ∃ i j : Int, vs = [.int i, .int j] /\ (-(2 ^ 62) <= i /\ i < 2 ^ 62 /\ -(2 ^ 62) <= j /\ j < 2 ^ 62) /\ R (Itr i (j - i).toNat) H1
theorem pi_range2 {a b : Expr} {ta : TA} {p pos : Pos} (hg : Gl X "range") (hm : X.mg "range" = none) (ha : PA X [a, b] ta) (hs : starEach [a, b] X.env = [(false, eval a X.env), (false, eval b X.env)] := by rfl) (hs2 : starEach [b] X.env = [(false, eval b X.env)] := by rfl) :
    PI X tg (.Call (.Name "range" p) [a, b] [] pos) (iRng2 ta) := by
  intro pins s σ H R I h;refine Call_ (ld_blt I hg hm boot_range (PyProof.Rows.callWith_type1 (thn (ha pos pins s σ H _ I h) fun us s1 ⟨vs, H1, I1, r1, q1⟩ => ?_) (by rw [hs, hs2]) (by rw [hs2]; rfl)));obtain ⟨i, j, e, ⟨q1, q2, q3, q4⟩, q⟩ := q1;subst e;cases r1 with
  | cons r rr =>
    cases rr with
    | cons r' rr =>
      cases rr;obtain ⟨t, rfl⟩ := r;obtain ⟨t', rfl⟩ := r';exact call_range_2 (range_it I1 q1 q2 q3 q4 q)
def tFor (wi : TI) (g : TG) (tb : TS) : TS := fun D σ H => wi σ H fun J H1 => ∃ W : Nat -> Nat -> St -> Hp -> Prop, (∃ m, W 0 m σ H1) /\ ∀ i m σ H, W i m σ H ->
  (J.stop i H /\ D.nx σ H) \/ (J.go i H /\ ∃ N : St -> Hp -> Prop, (∀ σ' H', N σ' H' -> ∃ m', m' < m /\ W (i + 1) m' σ' H') /\ ∀ x H', J.yld i H x H' -> g x σ H' fun σ2 H2 => tb { D with nx := N, ct := N, bk := D.nx } σ2 H2)
def pinsAt (fp : List Addr) (h : Heap) : List (Addr × Obj) := fp.filterMap fun b => (h.get? b).map fun o => (b, o)
theorem mem_pinsAt {fp : List Addr} {h : Heap} {b : Addr} {o : Obj} (hb : b ∈ fp) (e : h.get? b = some o) : (b, o) ∈ pinsAt fp h := List.mem_filterMap.mpr ⟨b, hb, by rw [e]; rfl⟩
theorem of_pinsAt {fp : List Addr} {h : Heap} {p : Addr × Obj} (hp : p ∈ pinsAt fp h) : p.1 ∈ fp /\ h.get? p.1 = some p.2 := by
  obtain ⟨b, hb, e⟩ := List.mem_filterMap.mp hp;cases q : h.get? b with
  | none => rw [q] at e; cases e
  | some o =>
    rw [q] at e;have e' : (b, o) = p := Option.some.inj e;subst e';exact ⟨hb, q⟩
theorem Inv.pinned {pins : List (Addr × Obj)} {σ : St} {H : Hp} {s : Shared} {fp : List Addr} (I : Inv X pins σ H s) (hf : ∀ b ∈ fp, FpOk X pins H b) (ho : ∀ b ∈ fp, ∃ o, s.heap.get? b = some o /\ ∀ v, o.data ≠ .cell v) : Inv X (pins ++ pinsAt fp s.heap) σ H s :=
  I.pins_of fun p hp => (List.mem_append.mp hp).elim (fun z => I.pin p (List.mem_append_right _ z)) fun z => by
    obtain ⟨hb, e⟩ := of_pinsAt z;obtain ⟨f0, f1, f2, _⟩ := hf p.1 hb;obtain ⟨o, e', d⟩ := ho p.1 hb;rw [e] at e'; cases e';exact ⟨e, f0, f1, f2, d⟩
theorem Inv.unpinned {pins pl : List (Addr × Obj)} {σ : St} {H : Hp} {s : Shared} (I : Inv X (pins ++ pl) σ H s) : Inv X pins σ H s := I.pins_of fun p hp => I.pin p (List.mem_append_right _ (List.mem_append_left _ hp))
theorem ps_for {iter : Expr} {body : List Stmt} {wi : TI} {g : TG} {tb : TS} {pos : Pos} (hp : PassesOwn (model X.prog X.w) X.A X.env X.xe) (hc : X.calm = true) (hi : PI X tg iter wi) (hg : PG X tg g) (hb : PSs X body tb)
    (hs : ∀ x, foldedSetIterable iter X.env x = pure x := by intro _; rfl) : PS X (.For tg iter body [] pos) (tFor wi g tb) := by
  intro pins s σ H D I h;refine wpAny_For (thn (hi pins s σ H _ I h) fun v s1 h1 => thn h1 fun itv s2 h2 => ?_) hs;obtain ⟨it, fp, tn, J, H2, e, I2, T, st2, f2, W, ⟨m0, w0⟩, turn⟩ := h2;subst e;have stat : ∀ {H' : Hp}, (∀ b ∈ fp, H' b = none) -> ∀ b ∈ fp, FpOk X pins H' b := fun hn b hb => ⟨hn b hb, (f2 b hb).2⟩
  refine codeAny_forLoop_any (fun n s' => ∃ i σ' H', Inv X pins σ' H' s' /\ tn i s'.heap /\ (∀ b ∈ fp, H' b = none) /\ W i n σ' H') ?_ m0 ⟨0, σ, H2, I2, st2, fun b hb => (f2 b hb).1, w0⟩;rintro n s3 ⟨i, σ3, H3, I3, st3, fr3, w3⟩;rcases turn i n σ3 H3 w3 with ⟨stop, qn⟩ | ⟨go, N, hN, step⟩
  · refine wpAny_passesOwn hp (thn (T.done X rfl rfl rfl hc i pins s3 σ3 H3 X.xe I3 (stat fr3) st3 stop) fun r s4 ⟨hr, I4⟩ => ?_);subst hr;exact wpAny_execs_nil ⟨σ3, H3, I4, qn⟩
  · refine wpAny_passesOwn hp (thn (T.item X rfl rfl rfl hc i pins s3 σ3 H3 X.xe I3 (stat fr3) st3 go) fun r s4 ⟨u, hr, h4⟩ => ?_);subst hr;refine wpAny_passesOwn hp (thn h4 fun _ s5 ⟨x, H5, I5, r5, y5, st5, fr5⟩ => ?_);have I5' := I5.pinned (stat fr5) (T.obj _ _ st5);refine wpAny_passesOwn hp (thn (hg _ s5 σ3 H5 x u _ I5' r5 (step x H5 y5)) fun _ s6 ⟨σ6, H6, I6, q6⟩ => ?_);refine wpAny_passesOwn hp (thn (hb _ s6 σ6 H6 _ I6 q6) fun f s7 q7 => ?_)
    have again : ∀ {σ7 : St} {H7 : Hp}, Inv X (pins ++ pinsAt fp s5.heap) σ7 H7 s7 -> N σ7 H7 -> ∃ m, m < n /\ ∃ i σ' H', Inv X pins σ' H' s7 /\ tn i s7.heap /\ (∀ b ∈ fp, H' b = none) /\ W i m σ' H' := fun {σ7 H7} I7 n7 => by
      obtain ⟨m', hm, w7⟩ := hN σ7 H7 n7;refine ⟨m', hm, i + 1, σ7, H7, I7.unpinned, T.keep _ _ _ st5 fun b hb o e => (I7.pin (b, o) (List.mem_append_right _ (List.mem_append_right _ (mem_pinsAt hb e)))).1, fun b hb => ?_, w7⟩;obtain ⟨o, e, d⟩ := T.obj _ _ st5 b hb;exact (I7.pin (b, o) (List.mem_append_right _ (List.mem_append_right _ (mem_pinsAt hb e)))).2.1
    cases f with
    | next => obtain ⟨σ7, H7, I7, n7⟩ := q7; exact again I7 n7
    | cont => obtain ⟨σ7, H7, I7, n7⟩ := q7; exact again I7 n7
    | brk => obtain ⟨σ7, H7, I7, q7⟩ := q7; exact ⟨σ7, H7, I7.unpinned, q7⟩
    | ret v => obtain ⟨x7, σ7, H7, I7, r7, q7⟩ := q7; exact ⟨x7, σ7, H7, I7.unpinned, r7, q7⟩
end
theorem for_list {K : PySem.W.Frag} {a : Addr} {xs : List V} {g : TG} {tb : TS} {D : Ends} {σ : St} {H : Hp} (Pv : Nat -> St -> Hp -> Prop) (h0 : Pv 0 σ H) (hl : ∀ i σ H, i <= xs.length -> Pv i σ H -> SqL K H a xs)
    (hs : ∀ i x σ H, xs[i]? = some x -> Pv i σ H -> g x σ H fun σ2 H2 => tb { D with nx := Pv (i + 1), ct := Pv (i + 1), bk := D.nx } σ2 H2) (hd : ∀ σ H, Pv xs.length σ H -> D.nx σ H) :
    ∃ W : Nat -> Nat -> St -> Hp -> Prop, (∃ m, W 0 m σ H) /\ ∀ i m σ H, W i m σ H ->
      ((Itl K a).stop i H /\ D.nx σ H) \/ ((Itl K a).go i H /\ ∃ N : St -> Hp -> Prop, (∀ σ' H', N σ' H' -> ∃ m', m' < m /\ W (i + 1) m' σ' H') /\ ∀ x H', (Itl K a).yld i H x H' -> g x σ H' fun σ2 H2 => tb { D with nx := N, ct := N, bk := D.nx } σ2 H2) := by
  refine ⟨fun i m σ H => m = xs.length - i /\ i <= xs.length /\ Pv i σ H, ⟨xs.length, by simp, Nat.zero_le _, h0⟩, ?_⟩;rintro i m σ H ⟨rfl, hi, p⟩;have q := hl i σ H hi p;by_cases hlt : i < xs.length
  · refine .inr ⟨⟨xs, xs[i], q, by simp [hlt]⟩, Pv (i + 1), fun σ' H' p' => ⟨xs.length - (i + 1), by omega, rfl, hlt, p'⟩, fun x H' y => ?_⟩;obtain ⟨e, y⟩ := y;subst e;exact hs i x σ _ (y xs q) p
  · have e : i = xs.length := by omega
    subst e;exact .inl ⟨⟨xs, q, Nat.le_refl _⟩, hd σ H p⟩
theorem for_tup {K : PySem.W.Frag} {a : Addr} {xs : List V} {g : TG} {tb : TS} {D : Ends} {σ : St} {H : Hp} (Pv : Nat -> St -> Hp -> Prop) (h0 : Pv 0 σ H) (hl : ∀ i σ H, i <= xs.length -> Pv i σ H -> SqT K H a xs)
    (hs : ∀ i x σ H, xs[i]? = some x -> Pv i σ H -> g x σ H fun σ2 H2 => tb { D with nx := Pv (i + 1), ct := Pv (i + 1), bk := D.nx } σ2 H2) (hd : ∀ σ H, Pv xs.length σ H -> D.nx σ H) :
    ∃ W : Nat -> Nat -> St -> Hp -> Prop, (∃ m, W 0 m σ H) /\ ∀ i m σ H, W i m σ H ->
      ((Itt K a).stop i H /\ D.nx σ H) \/ ((Itt K a).go i H /\ ∃ N : St -> Hp -> Prop, (∀ σ' H', N σ' H' -> ∃ m', m' < m /\ W (i + 1) m' σ' H') /\ ∀ x H', (Itt K a).yld i H x H' -> g x σ H' fun σ2 H2 => tb { D with nx := N, ct := N, bk := D.nx } σ2 H2) := by
  refine ⟨fun i m σ H => m = xs.length - i /\ i <= xs.length /\ Pv i σ H, ⟨xs.length, by simp, Nat.zero_le _, h0⟩, ?_⟩;rintro i m σ H ⟨rfl, hi, p⟩;have q := hl i σ H hi p;by_cases hlt : i < xs.length
  · refine .inr ⟨⟨xs, xs[i], q, by simp [hlt]⟩, Pv (i + 1), fun σ' H' p' => ⟨xs.length - (i + 1), by omega, rfl, hlt, p'⟩, fun x H' y => ?_⟩;obtain ⟨e, y⟩ := y;subst e;exact hs i x σ _ (y xs q) p
  · have e : i = xs.length := by omega
    subst e;exact .inl ⟨⟨xs, q, Nat.le_refl _⟩, hd σ H p⟩
theorem for_range {lo : Int} {n : Nat} {g : TG} {tb : TS} {D : Ends} {σ : St} {H : Hp} (Pv : Nat -> St -> Hp -> Prop) (h0 : Pv 0 σ H)
    (hs : ∀ i σ H, i < n -> Pv i σ H -> g (.int (lo + i)) σ H fun σ2 H2 => tb { D with nx := Pv (i + 1), ct := Pv (i + 1), bk := D.nx } σ2 H2) (hd : ∀ σ H, Pv n σ H -> D.nx σ H) :
    ∃ W : Nat -> Nat -> St -> Hp -> Prop, (∃ m, W 0 m σ H) /\ ∀ i m σ H, W i m σ H ->
      ((Itr lo n).stop i H /\ D.nx σ H) \/ ((Itr lo n).go i H /\ ∃ N : St -> Hp -> Prop, (∀ σ' H', N σ' H' -> ∃ m', m' < m /\ W (i + 1) m' σ' H') /\ ∀ x H', (Itr lo n).yld i H x H' -> g x σ H' fun σ2 H2 => tb { D with nx := N, ct := N, bk := D.nx } σ2 H2) := by
  refine ⟨fun i m σ H => m = n - i /\ i <= n /\ Pv i σ H, ⟨n, by simp, Nat.zero_le _, h0⟩, ?_⟩;rintro i m σ H ⟨rfl, hi, p⟩;by_cases hlt : i < n
  · refine .inr ⟨hlt, Pv (i + 1), fun σ' H' p' => ⟨n - (i + 1), by omega, rfl, hlt, p'⟩, fun x H' y => ?_⟩;obtain ⟨e, y⟩ := y;subst e y;exact hs i σ _ hlt p
  · have e : i = n := by omega
    subst e;exact .inl ⟨Nat.le_refl _, hd σ H p⟩
end L2
namespace L2
open PySem PySem.Spec PyProof.Rows
abbrev R2 := V -> V -> Hp -> VK -> Prop
def OpR (X : Cx) (f : Value -> Value -> Sem Value) (r : R2) : Prop :=
  ∀ (pins : List (Addr × Obj)) (s : Shared) (σ : St) (H : Hp) (x y : V) (v u : Value) (Q : VK), Inv X pins σ H s -> RelV x v -> RelV y u -> r x y H Q ->
    wpAny (model X.prog X.w) X.A (f v u) (EP X pins σ Q) X.xe s
def UnR (X : Cx) (f : Value -> Sem Value) (r : V -> Hp -> VK -> Prop) : Prop :=
  ∀ (pins : List (Addr × Obj)) (s : Shared) (σ : St) (H : Hp) (x : V) (v : Value) (Q : VK), Inv X pins σ H s -> RelV x v -> r x H Q ->
    wpAny (model X.prog X.w) X.A (f v) (EP X pins σ Q) X.xe s
def CallR (X : Cx) (f : Value) (r : List V -> Hp -> VK -> Prop) : Prop :=
  ∀ (pins : List (Addr × Obj)) (s : Shared) (σ : St) (H : Hp) (xs : List V) (us : List Value) (Q : VK), Inv X pins σ H s -> Vals xs us -> r xs H Q ->
    wpAny (model X.prog X.w) X.A (call f us) (EP X pins σ Q) X.xe s
def tOp (r : R2) (ta tb : TE) : TE := fun σ H Q => ta σ H fun x H1 => tb σ H1 fun y H2 => r x y H2 Q
def tUn (r : V -> Hp -> VK -> Prop) (ta : TE) : TE := fun σ H Q => ta σ H fun x H1 => r x H1 Q
def rI (C : Int -> Int -> Prop) (g : Int -> Int -> V) : R2 := fun x y H Q => ∃ i j, x = .int i /\ y = .int j /\ C i j /\ Q (g i j) H
def rI0 (g : Int -> Int -> V) : R2 := fun x y H Q => ∃ i j, x = .int i /\ y = .int j /\ Q (g i j) H
def rU (g : Int -> V) : V -> Hp -> VK -> Prop := fun x H Q => ∃ i, x = .int i /\ Q (g i) H
section
variable {X : Cx} {a b c : Expr} {ta tb tc : TE} {pos : Pos}
theorem binT (ha : PE X a ta) (hb : PE X b tb) {pins : List (Addr × Obj)} {s : Shared} {σ : St} {H : Hp} {R : V -> V -> Hp -> Prop} (I : Inv X pins σ H s)
    (h : ta σ H fun x H1 => tb σ H1 fun y H2 => R x y H2) {Q : Value -> Shared -> Prop} {f : Value -> Value -> Sem Value}
    (hf : ∀ v u s2 x y H2, Inv X pins σ H2 s2 -> RelV x v -> RelV y u -> R x y H2 -> wpAny (model X.prog X.w) X.A (f v u) Q X.xe s2) :
    wpAny (model X.prog X.w) X.A (eval a X.env) (fun v s₁ => wpAny (model X.prog X.w) X.A (eval b X.env) (fun u s₂ => wpAny (model X.prog X.w) X.A (f v u) Q X.xe s₂) X.xe s₁) X.xe s := by
  refine thn (ha pins s σ H _ I h) fun v s1 ⟨x, H1, I1, r1, q1⟩ => ?_
  refine thn (hb pins s1 σ H1 _ I1 q1) fun u s2 ⟨y, H2, I2, r2, q2⟩ => ?_
  exact hf v u s2 x y H2 I2 r1 r2 q2
theorem y8 {op : Operator} {r : R2} (ho : OpR X (binaryOp op) r) (ha : PE X a ta) (hb : PE X b tb) : PE X (.BinOp a op b pos) (tOp r ta tb) := by
  intro pins s σ H Q I h;exact wpAny_BinOp (binT ha hb I h fun v u s2 x y H2 I2 rx ry q => ho pins s2 σ H2 x y v u Q I2 rx ry q)
theorem pe_un {op : UnaryOp} {r : V -> Hp -> VK -> Prop} (ho : UnR X (unaryOp op) r) (ha : PE X a ta) : PE X (.UnaryOp op a pos) (tUn r ta) := by
  intro pins s σ H Q I h;exact UnaryOp_ (thn (ha pins s σ H _ I h) fun v s1 ⟨x, H1, I1, r1, q1⟩ => ho pins s1 σ H1 x v Q I1 r1 q1)
theorem opI {f : Value -> Value -> Sem Value} {C : Int -> Int -> Prop} {g : Int -> Int -> Int}
    (rule : ∀ (i j : Int) (t u : Tok) (s : Shared) (Q : Value -> Shared -> Prop) (E : Value -> Shared -> Prop), C i j -> Q (.int (g i j) s.toks) { s with toks := s.toks + 1 } -> wpAny (model X.prog X.w) X.A (f (.int i t) (.int j u)) Q E s) :
    OpR X f (rI C fun i j => .int (g i j)) := by
  intro pins s σ H x y v u Q I rx ry h;obtain ⟨i, j, rfl, rfl, hc, q⟩ := h;obtain ⟨t, rfl⟩ := rx;obtain ⟨t', rfl⟩ := ry;exact rule i j t t' s _ _ hc ⟨.int (g i j), H, I.tok _, ⟨_, rfl⟩, q⟩
theorem opI0 {f : Value -> Value -> Sem Value} {g : Int -> Int -> Int}
    (rule : ∀ (i j : Int) (t u : Tok) (s : Shared) (Q : Value -> Shared -> Prop) (E : Value -> Shared -> Prop), Q (.int (g i j) s.toks) { s with toks := s.toks + 1 } -> wpAny (model X.prog X.w) X.A (f (.int i t) (.int j u)) Q E s) :
    OpR X f (rI0 fun i j => .int (g i j)) := by
  intro pins s σ H x y v u Q I rx ry h;obtain ⟨i, j, rfl, rfl, q⟩ := h;obtain ⟨t, rfl⟩ := rx;obtain ⟨t', rfl⟩ := ry;exact rule i j t t' s _ _ ⟨.int (g i j), H, I.tok _, ⟨_, rfl⟩, q⟩
theorem opB0 {f : Value -> Value -> Sem Value} {g : Int -> Int -> Bool}
    (rule : ∀ (i j : Int) (t u : Tok) (s : Shared) (Q : Value -> Shared -> Prop) (E : Value -> Shared -> Prop), Q (.bool (g i j)) s -> wpAny (model X.prog X.w) X.A (f (.int i t) (.int j u)) Q E s) :
    OpR X f (rI0 fun i j => .bl (g i j)) := by
  intro pins s σ H x y v u Q I rx ry h;obtain ⟨i, j, rfl, rfl, q⟩ := h;obtain ⟨t, rfl⟩ := rx;obtain ⟨t', rfl⟩ := ry;exact rule i j t t' s _ _ ⟨.bl (g i j), H, I, rfl, q⟩
def CPow (i j : Int) : Prop := 0 <= j /\ j <= 1000000 /\ i.natAbs < 2 ^ 64
def CMul (i j : Int) : Prop := (-(2 ^ 64) < i /\ i < 2 ^ 64) \/ (-(2 ^ 64) < j /\ j < 2 ^ 64)
theorem CMul.ok {i j : Int} (h : CMul i j) : IntMulOk i j := by
  rcases h with ⟨h1, h2⟩ | ⟨h1, h2⟩
  · exact .of_left (intBits_le_64 h1 h2)
  · exact .of_right (intBits_le_64 h1 h2)
theorem two_pow_nn (k : Nat) : (0 : Int) <= 2 ^ k := by
  rw [two_pow_cast];exact Int.natCast_nonneg _
theorem Z2 : OpR X (binaryOp .Add) (rI0 fun i j => .int (i + j)) := opI0 fun _ _ _ _ _ _ _ q => add_int q
theorem W7 : OpR X (binaryOp .Sub) (rI0 fun i j => .int (i - j)) := opI0 fun _ _ _ _ _ _ _ q => sub_int q
theorem op_mul : OpR X (binaryOp .Mult) (rI CMul fun i j => .int (i * j)) := opI fun _ _ _ _ _ _ _ hc q => mul_int q hc.ok
theorem op_mod : OpR X (binaryOp .Mod) (rI (fun _ j => 0 < j) fun i j => .int (i % j)) := opI fun i j _ _ _ _ _ hc q => by
  have h1 : (0 : Int) < j := hc;exact mod_int' (by omega) (by rw [Int.fmod_eq_emod_of_nonneg i (by omega)]; exact q)
theorem op_shl : OpR X (binaryOp .LShift) (rI CPow fun i j => .int (i * 2 ^ j.toNat)) := opI fun _ _ _ _ _ _ _ hc q => lshift_int_small hc.1 hc.2.1 hc.2.2 q
theorem op_shr : OpR X (binaryOp .RShift) (rI (fun _ j => 0 <= j) fun i j => .int (i / 2 ^ j.toNat)) := opI fun i j _ _ _ _ _ hc q =>
  rshift_int hc (by rw [Int.fdiv_eq_ediv_of_nonneg i (two_pow_nn _)]; exact q)
theorem op_and : OpR X (binaryOp .BitAnd) (rI0 fun i j => .int (Builtin.bitAnd i j)) := opI0 fun _ _ _ _ _ _ _ q => and_int q
theorem op_or : OpR X (binaryOp .BitOr) (rI0 fun i j => .int (Builtin.bitOr i j)) := opI0 fun _ _ _ _ _ _ _ q => or_int q
theorem op_xor : OpR X (binaryOp .BitXor) (rI0 fun i j => .int (Builtin.bitXor i j)) := opI0 fun _ _ _ _ _ _ _ q => xor_int q
theorem unI {f : Value -> Sem Value} {g : Int -> Int}
    (rule : ∀ (i : Int) (t : Tok) (s : Shared) (Q : Value -> Shared -> Prop) (E : Value -> Shared -> Prop), Q (.int (g i) s.toks) { s with toks := s.toks + 1 } -> wpAny (model X.prog X.w) X.A (f (.int i t)) Q E s) :
    UnR X f (rU fun i => .int (g i)) := by
  intro pins s σ H x v Q I rx h;obtain ⟨i, rfl, q⟩ := h;obtain ⟨t, rfl⟩ := rx;exact rule i t s _ _ ⟨.int (g i), H, I.tok _, ⟨_, rfl⟩, q⟩
theorem un_neg : UnR X (unaryOp .USub) (rU fun i => .int (-i)) := unI fun _ _ _ _ _ q => neg_int q
end
def scal : V -> V -> Bool
  | .non, .non => true | .non, .int _ => true | .int _, .non => true | .non, .bl _ => true | .bl _, .non => true | .non, .str _ => true | .str _, .non => true
  | .int _, .int _ => true | .bl _, .bl _ => true | .str _, .str _ => true | .byt _, .byt _ => true
  | .int _, .str _ => true | .str _, .int _ => true | .bl _, .str _ => true | .str _, .bl _ => true
  | _, _ => false
def rEq : R2 := fun x y H Q => scal x y = true /\ Q (.bl (decide (x = y))) H
def rNe : R2 := fun x y H Q => scal x y = true /\ Q (.bl (!decide (x = y))) H
theorem dec_int {i j : Int} : decide (V.int i = V.int j) = (i == j) := by
  rw [Bool.eq_iff_iff];simp
theorem dec_bl {i j : Bool} : decide (V.bl i = V.bl j) = (i == j) := by
  rw [Bool.eq_iff_iff];simp
theorem dec_str {i j : Str} : decide (V.str i = V.str j) = (i == j) := by
  rw [Bool.eq_iff_iff];simp
theorem dec_byt {i j : Array UInt8} : decide (V.byt i = V.byt j) = (i.toList == j.toList) := by
  rw [Bool.eq_iff_iff];cases i;cases j;simp
section
variable {X : Cx} {a b c : Expr} {ta tb tc : TE} {pos : Pos}
theorem x6 {pins : List (Addr × Obj)} {σ : St} {H : Hp} {s : Shared} {Q : VK} {k k' : Bool} (I : Inv X pins σ H s) (q : Q (.bl k) H) (e : k = k') : EP X pins σ Q (.bool k') s := by
  subst e;exact ⟨.bl k, H, I, rfl, q⟩
theorem op_eq : OpR X (compareOp .Eq) rEq := by
  intro pins s σ H x y v u Q I rx ry h;obtain ⟨hs, q⟩ := h;cases x with
  | non =>
    cases rx;cases y with
    | non => cases ry; exact PySem.EqNone.eq_none_none (x6 I q (by simp))
    | bl j => cases ry; exact PySem.EqNone.eq_none_bool (x6 I q (by simp))
    | int j => obtain ⟨t', rfl⟩ := ry; exact PySem.EqNone.eq_none_int (x6 I q (by simp))
    | str j => obtain ⟨t', rfl⟩ := ry; exact PySem.EqNone.eq_none_str (x6 I q (by simp))
    | _ => exact absurd (show false = true from hs) Bool.false_ne_true
  | bl i =>
    cases rx;cases y with
    | non => cases ry; exact PySem.EqNone.eq_bool_none (x6 I q (by simp))
    | bl j => cases ry; exact eq_bool (x6 I q dec_bl)
    | str j => obtain ⟨t', rfl⟩ := ry; exact PySem.EqMixed.eq_bool_str (x6 I q (by simp))
    | _ => exact absurd (show false = true from hs) Bool.false_ne_true
  | int i =>
    obtain ⟨t, rfl⟩ := rx;cases y with
    | non => cases ry; exact PySem.EqNone.eq_int_none (x6 I q (by simp))
    | int j => obtain ⟨t', rfl⟩ := ry; exact eq_int (x6 I q dec_int)
    | str j => obtain ⟨t', rfl⟩ := ry; exact PySem.EqMixed.eq_int_str (x6 I q (by simp))
    | _ => exact absurd (show false = true from hs) Bool.false_ne_true
  | str i =>
    obtain ⟨t, rfl⟩ := rx;cases y with
    | non => cases ry; exact PySem.EqNone.eq_str_none (x6 I q (by simp))
    | bl j => cases ry; exact PySem.EqMixed.eq_str_bool (x6 I q (by simp))
    | int j => obtain ⟨t', rfl⟩ := ry; exact PySem.EqMixed.eq_str_int (x6 I q (by simp))
    | str j => obtain ⟨t', rfl⟩ := ry; exact eq_str (x6 I q dec_str)
    | _ => exact absurd (show false = true from hs) Bool.false_ne_true
  | byt i =>
    obtain ⟨t, rfl⟩ := rx;cases y with
    | byt j => obtain ⟨t', rfl⟩ := ry; exact PySem.W.eq_bytes (x6 I q dec_byt)
    | _ => exact absurd (show false = true from hs) Bool.false_ne_true
  | _ => cases y <;> exact absurd (show false = true from hs) Bool.false_ne_true
theorem op_ne : OpR X (compareOp .NotEq) rNe := by
  intro pins s σ H x y v u Q I rx ry h;obtain ⟨hs, q⟩ := h;cases x with
  | non =>
    cases rx;cases y with
    | non => cases ry; exact PySem.EqNone.ne_none_none (x6 I q (by simp))
    | bl j => cases ry; exact PySem.EqNone.ne_none_bool (x6 I q (by simp))
    | int j => obtain ⟨t', rfl⟩ := ry; exact PySem.EqNone.ne_none_int (x6 I q (by simp))
    | str j => obtain ⟨t', rfl⟩ := ry; exact PySem.EqNone.ne_none_str (x6 I q (by simp))
    | _ => exact absurd (show false = true from hs) Bool.false_ne_true
  | bl i =>
    cases rx;cases y with
    | non => cases ry; exact PySem.EqNone.ne_bool_none (x6 I q (by simp))
    | bl j => cases ry; exact ne_bool (x6 I q (congrArg not dec_bl))
    | str j => obtain ⟨t', rfl⟩ := ry; exact PySem.EqMixed.ne_bool_str (x6 I q (by simp))
    | _ => exact absurd (show false = true from hs) Bool.false_ne_true
  | int i =>
    obtain ⟨t, rfl⟩ := rx;cases y with
    | non => cases ry; exact PySem.EqNone.ne_int_none (x6 I q (by simp))
    | int j => obtain ⟨t', rfl⟩ := ry; exact ne_int (x6 I q (congrArg not dec_int))
    | str j => obtain ⟨t', rfl⟩ := ry; exact PySem.EqMixed.ne_int_str (x6 I q (by simp))
    | _ => exact absurd (show false = true from hs) Bool.false_ne_true
  | str i =>
    obtain ⟨t, rfl⟩ := rx;cases y with
    | non => cases ry; exact PySem.EqNone.ne_str_none (x6 I q (by simp))
    | bl j => cases ry; exact PySem.EqMixed.ne_str_bool (x6 I q (by simp))
    | int j => obtain ⟨t', rfl⟩ := ry; exact PySem.EqMixed.ne_str_int (x6 I q (by simp))
    | str j => obtain ⟨t', rfl⟩ := ry; exact ne_str (x6 I q (congrArg not dec_str))
    | _ => exact absurd (show false = true from hs) Bool.false_ne_true
  | byt i =>
    obtain ⟨t, rfl⟩ := rx;cases y with
    | byt j => obtain ⟨t', rfl⟩ := ry; exact PySem.W.ne_bytes (x6 I q (congrArg not dec_byt))
    | _ => exact absurd (show false = true from hs) Bool.false_ne_true
  | _ => cases y <;> exact absurd (show false = true from hs) Bool.false_ne_true
theorem op_lt : OpR X (compareOp .Lt) (rI0 fun i j => .bl (decide (i < j))) := opB0 fun _ _ _ _ _ _ _ q => lt_int q
theorem W4 : OpR X (compareOp .LtE) (rI0 fun i j => .bl (decide (i <= j))) := opB0 fun _ _ _ _ _ _ _ q => le_int q
theorem op_gt : OpR X (compareOp .Gt) (rI0 fun i j => .bl (decide (j < i))) := opB0 fun _ _ _ _ _ _ _ q => gt_int q
theorem op_ge : OpR X (compareOp .GtE) (rI0 fun i j => .bl (decide (j <= i))) := opB0 fun _ _ _ _ _ _ _ q => ge_int q
theorem j9 (b : Expr) {op : CmpOp} (h : op ≠ .In := by decide) (h2 : op ≠ .NotIn := by decide) : behindInMarks op b = false := by
  have e1 : (op == CmpOp.In) = false := by cases op <;> first | rfl | exact absurd rfl h
  have e2 : (op == CmpOp.NotIn) = false := by cases op <;> first | rfl | exact absurd rfl h2
  cases b <;> simp [behindInMarks, e1, e2]
theorem pe_cmpR {op : CmpOp} {r : R2} (ho : OpR X (compareOp op) r) (ha : PE X a ta) (hb : PE X b tb) (hm : behindInMarks op b = false) : PE X (.Compare a [op] [b] pos) (tOp r ta tb) := by
  intro pins s σ H Q I h;exact wpAny_Compare1 (binT ha hb I h fun v u s2 x y H2 I2 rx ry q => ho pins s2 σ H2 x y v u Q I2 rx ry q) hm
def tTest (t : TE) : TT := fun σ H Q => t σ H fun x H' => ∃ k, x = .bl k /\ Q k H'
theorem j8 {op : CmpOp} {r : R2} (ho : OpR X (compareOp op) r) (ha : PE X a ta) (hb : PE X b tb) (hm : behindInMarks op b = false) : PT X (.Compare a [op] [b] pos) (tTest (tOp r ta tb)) := by
  intro pins s σ H Q I h
  refine wpAny_isTrue_Compare1 (thn (ha pins s σ H _ I h) fun v s1 ⟨x, H1, I1, r1, q1⟩ => thn (hb pins s1 σ H1 _ I1 q1) fun u s2 ⟨y, H2, I2, r2, q2⟩ =>
    thn (ho pins s2 σ H2 x y v u _ I2 r1 r2 q2) fun c s3 ⟨z, H3, I3, r3, k, e, q3⟩ => ?_) hm
  subst e;cases r3;exact wpAny_truthy_bool ⟨H3, I3, q3⟩
def tChain (r r' : R2) (ta tb tc : TE) : TE := fun σ H Q => ta σ H fun x H1 => tb σ H1 fun y H2 => r x y H2 fun z H3 => ∃ k, z = .bl k /\
  (if k = true then tc σ H3 fun w' H4 => r' y w' H4 Q else Q (.bl false) H3)
theorem pe_chain {op op' : CmpOp} {r r' : R2} (ho : OpR X (compareOp op) r) (ho' : OpR X (compareOp op') r') (ha : PE X a ta) (hb : PE X b tb) (hc : PE X c tc)
    (hm : lastMarks [op, op'] [b, c] = false := by with_unfolding_all rfl) : PE X (.Compare a [op, op'] [b, c] pos) (tChain r r' ta tb tc) := by
  intro pins s σ H Q I h
  refine Compare_chain (thn (ha pins s σ H _ I h) fun v s1 ⟨x, H1, I1, r1, q1⟩ => chain_link (thn (hb pins s1 σ H1 _ I1 q1) fun u s2 ⟨y, H2, I2, r2, q2⟩ =>
    thn (ho pins s2 σ H2 x y v u _ I2 r1 r2 q2) fun d s3 ⟨z, H3, I3, r3, k, e, q3⟩ => ?_)) hm
  subst e;cases r3;refine wpAny_truthy_bool ?_;cases k with
  | false => exact ite_ff ⟨.bl false, H3, I3, rfl, q3⟩
  | true => exact ite_tt (chain_last (thn (hc pins s3 σ H3 _ I3 q3) fun w' s4 ⟨z', H4, I4, r4, q4⟩ => ho' pins s4 σ H4 y z' u w' Q I4 r2 r4 q4))
theorem Y5 {op op' : CmpOp} {r r' : R2} (ho : OpR X (compareOp op) r) (ho' : OpR X (compareOp op') r') (ha : PE X a ta) (hb : PE X b tb) (hc : PE X c tc)
    (hm : lastMarks [op, op'] [b, c] = false := by with_unfolding_all rfl) : PT X (.Compare a [op, op'] [b, c] pos) (tTest (tChain r r' ta tb tc)) := by
  intro pins s σ H Q I h
  refine isTrue_chain (thn (ha pins s σ H _ I h) fun v s1 ⟨x, H1, I1, r1, q1⟩ => test_link (thn (hb pins s1 σ H1 _ I1 q1) fun u s2 ⟨y, H2, I2, r2, q2⟩ =>
    thn (ho pins s2 σ H2 x y v u _ I2 r1 r2 q2) fun d s3 ⟨z, H3, I3, r3, k, e, q3⟩ => ?_)) hm
  subst e;cases r3;refine wpAny_truthy_bool ?_;cases k with
  | false =>
    obtain ⟨k', e', q'⟩ := q3;cases e';exact ite_ff ⟨H3, I3, q'⟩
  | true =>
    refine ite_tt (test_last (thn (hc pins s3 σ H3 _ I3 q3) fun w' s4 ⟨z', H4, I4, r4, q4⟩ => thn (ho' pins s4 σ H4 y z' u w' _ I4 r2 r4 q4) fun d' s5 ⟨z2, H5, I5, r5, k2, e2, q5⟩ => ?_));subst e2;cases r5;exact wpAny_truthy_bool ⟨H5, I5, q5⟩
theorem line63 : (sizeLine : Nat) < 2 ^ 63 := by rw [sizeLine_eq]; decide
theorem vals1 {x : V} {us : List Value} (r : Vals [x] us) : ∃ u, us = [u] /\ RelV x u := by
  cases r with
  | cons r1 r2 => cases r2; exact ⟨_, rfl, r1⟩
theorem call_ord : CallR X (.builtin "ord") (fun xs H Q => ∃ x, xs = [.str x] /\ x.length = 1 /\ Q (.int (x.cps.getD 0 0 : Nat)) H) := by
  intro pins s σ H xs us Q I r h;obtain ⟨x, rfl, hz, q⟩ := h;obtain ⟨u, rfl, t, rfl⟩ := vals1 r;exact ord_of_one hz ⟨.int _, H, I.tok _, ⟨_, rfl⟩, q⟩
end
end L2
namespace L2
open PySem PySem.Spec PyProof.Rows
structure ObjM (h : Heap) (x dx C : Addr) (mA : Str -> Option Value) : Prop where
  obj : h.get? x = some (PySem.W.instObj C dx)
  ns : h.Ns1 dx mA
  ne : dx ≠ x
theorem lookIn_ns {h : Heap} {dx : Addr} {mA : Str -> Option Value} (n : h.Ns1 dx mA) : ∃ od, h.get? dx = some od /\ ∀ name, PySem.W.lookIn name od = some (mA name) := by
  obtain ⟨o, es, ep, ho, hd, hk, _, hm⟩ := n;refine ⟨o, ho, fun name => ?_⟩;have e := hm name;unfold nsFind findBy at e;rw [<- Array.find?_toList] at e;unfold PySem.W.lookIn;rw [hd];dsimp only
  split
  · rename_i y q
    rw [q] at e;exact congrArg some e
  · rename_i q
    rw [q] at e
    have a : es.toList.any (·.refKey) = false := by
      rw [List.any_eq_false];intro y hy;obtain ⟨z, t, hkey⟩ := hk y (Array.mem_toList_iff.mp hy);simp [DictEntry.refKey, hkey]
    have a' : ¬ es.toList.any (·.refKey) = true := by rw [a]; exact Bool.false_ne_true
    rw [if_neg a'];exact congrArg some e
theorem ObjM.look {h : Heap} {x dx C : Addr} {mA : Str -> Option Value} (I : ObjM h x dx C mA) : ∃ od, PySem.W.InstAt h x (PySem.W.instObj C dx) C (some od) /\ ∀ name, PySem.W.lookIn name od = some (mA name) :=
  let ⟨od, ho, hl⟩ := lookIn_ns I.ns
  ⟨od, ⟨I.obj, rfl, rfl, ho⟩, hl⟩
section
variable {prog : Program} {w : World} {A : Around} {E : Value -> Shared -> Prop} {s : Shared} {K : PySem.W.Frag} {x dx C f : Addr} {mA : Str -> Option Value} {name : Str} {v : Value}
theorem get_map {expr : Bool} {Q : Value -> Shared -> Prop} (X : K.In s.heap) (I : ObjM s.heap x dx C mA) (hg : PySem.W.plainGet K C name = true) (hh : PySem.W.hasDictIn K C = true)
    (ha : PySem.W.findIn K (.ref C) name = some none) (hv : mA name = some v) (hv' : PySem.W.handedIn v = true) (h : Q v { s with toks := s.toks + 1 }) :
    wpAny (model prog w) A (getAttr (.ref x) name expr) Q E s := by
  obtain ⟨od, J, hl⟩ := I.look;exact PySem.W.get_value X J (PySem.W.plainGet_of hg).1 (PySem.W.findObj_own hh ha rfl (by rw [hl, hv])) hv' h
theorem get_meth {pl : Sem Bool} {Q : Value × List Value -> Shared -> Prop} (X : K.In s.heap) (I : ObjM s.heap x dx C mA) (hg : PySem.W.plainGet K C name = true)
    (hf : PySem.W.findIn K (.ref C) name = some (some (.ref f))) (ht : PySem.W.isFn K (.ref f) = true) (hv : mA name = none) (h : Q (.ref f, [.ref x]) s) :
    wpAny (model prog w) A (getMethod (.ref x) name pl) Q E s := by
  obtain ⟨od, J, hl⟩ := I.look;exact PySem.W.method_fn X J (PySem.W.plainGet_of hg).1 (PySem.W.plainGet_of hg).2 hf (beq_iff_eq.mp ht) (by show (PySem.W.lookIn name od).map (·.isSome) = some false; rw [hl, hv]; rfl) h
theorem set_map {ns : List Str} {Q : Unit -> Shared -> Prop} (X : K.In s.heap) (I : ObjM s.heap x dx C mA)
    (hs : PySem.W.findIn K (.ref C) "__setattr__" = some (some (.builtin "object.__setattr__"))) (hp : PySem.W.plainOver K C = true) (ht : PySem.W.takerIn K C name = some none) (hh : PySem.W.hasDictIn K C = true)
    (hw : PySem.Within mA ns) (hsz : ns.length <= sizeLine)
    (h : ∀ h', ObjM h' x dx C (fun y => if y = name then some v else mA y) -> Heap.SameBut dx s.heap h' -> Q () { s with heap := h', toks := s.toks + 2 }) :
    wpAny (model prog w) A (setAttr (.ref x) name v) Q E s := by
  obtain ⟨od, J, hl⟩ := I.look;refine PySem.W.set_plain X J hs (PySem.W.osa_open (s := { s with toks := s.toks + 1 }) (r := none) X J hp ht fun b => ?_);obtain ⟨cd, hc, hd'⟩ := PySem.W.any_some hh;have hx : s.heap.get? x = some ⟨.ref C, some dx, .plain, #[]⟩ := I.obj;refine wpAny_bind (wpAny_pure (wpAny_bind (wpAny_bind (wpAny_loadPart hx (wpAny_bind (PySem.W.Looks.here (s := { s with toks := s.toks + 1 }) (PySem.W.looks_clsIn X hc) ?_))))));rw [hd'];refine wpAny_pure (a := some dx) (wpAny_bind (wpAny_pure (wpAny_bind ?_)));refine wpAny_nsSet1 (s := { s with toks := s.toks + 1 }) I.ns fun h' hn2 hs2 => ?_
  obtain ⟨oD, esD, epD, hoD, hdD, hcD⟩ := hn2.count (PySem.Within.cons name v hw);refine wpAny_bind (wpAny_lookBehind hoD (by rw [hdD]; exact pastItsLine_dict (Nat.le_trans hcD (by rw [List.length_cons]; omega))) ?_);exact wpAny_pure (h _ ⟨(hs2.2 _ (Ne.symm I.ne)).trans I.obj, hn2, I.ne⟩ hs2)
theorem make_map {R : Result -> Shared -> Prop} {vs : List Value} {kw : List (Str × Value)} (X : K.In s.heap) (hm : PySem.W.makesIn K C = true)
    (hi : PySem.W.findIn K (.ref C) "__init__" = some (some (.ref f))) (hf : PySem.W.typeIn K (.ref f) = some (.type "function"))
    (h : codeAny (model prog w) (A.under (.builtin "type.__call__" ⟨.ref C :: vs, kw⟩)) (.call (.ref f) ⟨.ref (s.heap.objs.size + 1) :: vs, kw⟩) (PySem.W.InitBack (s.heap.objs.size + 1) R)
      { s with heap := (s.heap.push PySem.W.emptyDict).push (PySem.W.instObj C s.heap.objs.size) }) :
    codeAny (model prog w) A (.call (.ref C) ⟨vs, kw⟩) R s := by
  obtain ⟨hh, g, d, t, os⟩ := s;exact PySem.W.make_core (PySem.W.makes_of X hm) (PySem.W.looks_findIn X hi) (fun self => PySem.W.bind_fn X self hf) (.inl rfl) h
end
def putF (f : Str) (v : V) : List (Str × V) -> List (Str × V)
  | [] => [(f, v)]
  | (g, x) :: r => if g = f then (g, v) :: r else (g, x) :: putF f v r
theorem lookup_putF (f g : Str) (v : V) : ∀ fs : List (Str × V), (putF f v fs).lookup g = if g = f then some v else fs.lookup g
  | [] => by
    show List.lookup g [(f, v)] = _;by_cases h : g = f
    · have hb : (g == f) = true := beq_iff_eq.mpr h;simp only [List.lookup, hb, if_pos h]
    · have hb : (g == f) = false := beq_eq_false_iff_ne.mpr h;simp only [List.lookup, hb, if_neg h]
  | (k, x) :: r => by
    have ih := lookup_putF f g v r;rw [show putF f v ((k, x) :: r) = (if k = f then (k, v) :: r else (k, x) :: putF f v r) from rfl];by_cases hk : k = f
    · rw [if_pos hk];by_cases h : g = k
      · have hb : (g == k) = true := beq_iff_eq.mpr h;simp only [List.lookup, hb, if_pos (h.trans hk)]
      · have hb : (g == k) = false := beq_eq_false_iff_ne.mpr h;simp only [List.lookup, hb, if_neg (fun e : g = f => h (e.trans hk.symm))]
    · rw [if_neg hk];by_cases h : g = k
      · have hb : (g == k) = true := beq_iff_eq.mpr h;simp only [List.lookup, hb, if_neg (fun e : g = f => hk (h.symm.trans e))]
      · have hb : (g == k) = false := beq_eq_false_iff_ne.mpr h;simp only [List.lookup, hb];exact ih
theorem keys_putF (f : Str) (v : V) : ∀ fs : List (Str × V), f ∈ (putF f v fs).map (·.1) /\ ∀ g, g ∈ fs.map (·.1) -> g ∈ (putF f v fs).map (·.1)
  | [] => ⟨by simp [putF], fun g h => by simp at h⟩
  | (k, x) :: r => by
    obtain ⟨i1, i2⟩ := keys_putF f v r;rw [show putF f v ((k, x) :: r) = (if k = f then (k, v) :: r else (k, x) :: putF f v r) from rfl];by_cases hk : k = f
    · rw [if_pos hk];subst hk;exact ⟨by simp, fun g h => by simpa using h⟩
    · rw [if_neg hk];refine ⟨?_, fun g h => ?_⟩
      · rw [List.map_cons];exact List.mem_cons_of_mem _ i1
      · rw [List.map_cons] at h ⊢;rcases List.mem_cons.mp h with e | e
        · exact List.mem_cons.mpr (.inl e)
        · exact List.mem_cons_of_mem _ (i2 g e)
theorem length_putF (f : Str) (v : V) : ∀ fs : List (Str × V), (putF f v fs).length <= fs.length + 1
  | [] => by simp [putF]
  | (k, x) :: r => by
    have ih := length_putF f v r;rw [show putF f v ((k, x) :: r) = (if k = f then (k, v) :: r else (k, x) :: putF f v r) from rfl];by_cases hk : k = f
    · rw [if_pos hk, List.length_cons, List.length_cons]; omega
    · rw [if_neg hk, List.length_cons, List.length_cons]; omega
theorem RelO.some_of {v : V} {o : Option Value} (r : RelO (some v) o) : ∃ u, o = some u /\ RelV v u := by
  cases o with
  | none => exact (show False from r).elim
  | some u => exact ⟨u, rfl, r⟩
theorem RelO.none_of {o : Option Value} (r : RelO none o) : o = none := by
  cases o with
  | none => rfl
  | some u => exact (show False from r).elim
theorem handed_of {v : V} {u : Value} (r : RelV v u) : PySem.W.handedIn u = true := by
  cases v with
  | non => cases (show u = Value.none from r); rfl
  | bl b => cases (show u = Value.bool b from r); rfl
  | int i => obtain ⟨t, e⟩ := (show ∃ t, u = Value.int i t from r); cases e; rfl
  | str x => obtain ⟨t, e⟩ := (show ∃ t, u = Value.str x t from r); cases e; rfl
  | byt b => obtain ⟨t, e⟩ := (show ∃ t, u = Value.bytes b t from r); cases e; rfl
  | flt b => obtain ⟨t, e⟩ := (show ∃ t, u = Value.float b t from r); cases e; rfl
  | ref a => cases (show u = Value.ref a from r); rfl
  | ty n => cases (show u = Value.type n from r); rfl
section
variable {P : Program} {w : World} {H H' : Hp} {h h' : Heap} {a C dx : Addr} {fs fs' : List (Str × V)}
theorem ins_get (hok : HOk P w H h) (e : H a = some (.ins C dx fs)) : ∃ mA, ObjM h a dx C mA /\ (∀ f, RelO (fs.lookup f) (mA f)) /\ PySem.Within mA (fs.map (·.1)) /\ fs.length <= 1000 /\ H dx = some (.own a) := by
  obtain ⟨d, z, ne, ob, mA, n, r, q⟩ := (show Q7 P w H h a (.ins C dx fs) from hok a _ e);exact ⟨mA, ⟨ob, n, ne⟩, r, q, z, d⟩
end
structure Cls (K : PySem.W.Frag) (C : Addr) : Prop where
  pg : PySem.W.plainGet K C Str.empty = true
  hd : PySem.W.hasDictIn K C = true
  po : PySem.W.plainOver K C = true
  sa : PySem.W.findIn K (.ref C) "__setattr__" = some (some (.builtin "object.__setattr__"))
theorem Cls.get {K : PySem.W.Frag} {C : Addr} (c : Cls K C) (f : Str) : PySem.W.plainGet K C f = true := c.pg
def Y4 (K : PySem.W.Frag) (C : Addr) (f : Str) : Prop := PySem.W.findIn K (.ref C) f = some none
theorem Y4.taker {K : PySem.W.Frag} {C : Addr} {f : Str} (n : Y4 K C f) : PySem.W.takerIn K C f = some none := by
  unfold PySem.W.takerIn;rw [show PySem.W.findIn K (.ref C) f = some none from n];rfl
structure Con (K : PySem.W.Frag) (C : Addr) (f : Str) (v : V) (u : Value) : Prop where
  at_ : PySem.W.findIn K (.ref C) f = some (some u)
  rel : RelV v u
  get : PySem.W.specialIn K u "__get__" = some none
  cp : PySem.W.copiedNames.contains f = false
structure Meth (K : PySem.W.Frag) (C : Addr) (m : Str) (f : Addr) : Prop where
  at_ : PySem.W.findIn K (.ref C) m = some (some (.ref f))
  fn : PySem.W.isFn K (.ref f) = true
  kp : PySem.W.keepIn K (.ref f) = true
section
variable {X : Cx} {pins : List (Addr × Obj)} {σ : St} {H : Hp} {s : Shared} {a C dx : Addr} {fs : List (Str × V)} {f : Str} {v : V} {A : Around} {E : Value -> Shared -> Prop}
theorem getattr_ok {b : Bool} {Q : Value -> Shared -> Prop} (I : Inv X pins σ H s) (e : H a = some (.ins C dx fs)) (c : Cls X.K C) (n : Y4 X.K C f) (l : fs.lookup f = some v)
    (h : ∀ u s', Inv X pins σ H s' -> RelV v u -> Q u s') : wpAny (model X.prog X.w) A (getAttr (.ref a) f b) Q E s := by
  obtain ⟨mA, O, r, _, _, _⟩ := ins_get I.hok e;obtain ⟨u, hu, ru⟩ := RelO.some_of (v := v) (o := mA f) (by rw [<- l]; exact r f);exact get_map I.kIn O (c.get f) c.hd n hu (handed_of ru) (h u _ (I.tok _) ru)
theorem getmeth_ok {m : Str} {g : Addr} {pl : Sem Bool} {Q : Value × List Value -> Shared -> Prop} (I : Inv X pins σ H s) (e : H a = some (.ins C dx fs)) (c : Cls X.K C) (k : Meth X.K C m g) (l : fs.lookup m = none)
    (h : Q (.ref g, [.ref a]) s) : wpAny (model X.prog X.w) A (getMethod (.ref a) m pl) Q E s := by
  obtain ⟨mA, O, r, _, _, _⟩ := ins_get I.hok e;have hn : mA m = none := RelO.none_of (by rw [<- l]; exact r m);exact get_meth I.kIn O (c.get m) k.at_ k.fn hn h
theorem setattr_ok {y : V} {u : Value} {Q : Unit -> Shared -> Prop} (I : Inv X pins σ H s) (e : H a = some (.ins C dx fs)) (c : Cls X.K C) (n : Y4 X.K C f) (hl : fs.length < 1000) (ry : RelV y u)
    (h : ∀ s', Inv X pins σ (upd H a (.ins C dx (putF f y fs))) s' -> Q () s') : wpAny (model X.prog X.w) A (setAttr (.ref a) f u) Q E s := by
  obtain ⟨mA, O, r, wi, _, ho⟩ := ins_get I.hok e;have hz : (fs.map (·.1)).length <= sizeLine := by rw [List.length_map, sizeLine_eq]; omega
  refine set_map I.kIn O c.sa c.po n.taker c.hd wi hz fun h' O' sb => h _ ?_
  have hd : ∃ o, h'.get? dx = some o := let ⟨o, _, _, e', _⟩ := O'.ns; ⟨o, e'⟩;refine I.write (x := a) (e := dx) (by rw [e]; exact True.intro) (.inr ho) (fun b q hb z => (sb.2 b hb).trans z) hd ?_;refine ⟨by rw [y9 O.ne]; exact ho, ?_, O.ne, O'.obj, _, O'.ns, fun g => ?_, fun g hg => ?_⟩
  · have := length_putF f y fs; omega
  · show RelO ((putF f y fs).lookup g) (if g = f then some u else mA g);rw [lookup_putF];by_cases q : g = f
    · rw [if_pos q, if_pos q]; exact ry
    · rw [if_neg q, if_neg q]; exact r g
  · by_cases q : g = f
    · rw [q]; exact (keys_putF f y fs).1
    · refine (keys_putF f y fs).2 g (wi g fun z => hg ?_);show (if g = f then some u else mA g) = none;rw [if_neg q]; exact z
theorem Inv.made (I : Inv X pins σ H s) : Inv X pins σ (upd (upd H s.heap.objs.size (.own (s.heap.objs.size + 1))) (s.heap.objs.size + 1) (.ins C s.heap.objs.size []))
    { s with heap := (s.heap.push PySem.W.emptyDict).push (PySem.W.instObj C s.heap.objs.size) } := by
  have e1 : (s.heap.push PySem.W.emptyDict).get? s.heap.objs.size = some PySem.W.emptyDict := Heap.get?_push_size s.heap rfl
  have e2 : ((s.heap.push PySem.W.emptyDict).push (PySem.W.instObj C s.heap.objs.size)).get? (s.heap.objs.size + 1) = some (PySem.W.instObj C s.heap.objs.size) := by
    have := Heap.get?_push_size (s.heap.push PySem.W.emptyDict) (o := PySem.W.instObj C s.heap.objs.size) rfl
    rwa [Heap.size_push] at this
  have e3 : (s.heap.push PySem.W.emptyDict).Ns s.heap.objs.size (fun _ => none) := ⟨PySem.W.emptyDict, #[], _, e1, rfl, (fun e he => absurd he (by simp)), fun _ => rfl⟩;have I1 := I.laid (a := s.heap.objs.size) (o := .own (s.heap.objs.size + 1)) (h' := s.heap.push PySem.W.emptyDict) (t' := s.toks) (fun b u q => Heap.get?_push_of_some _ q) (Nat.le_refl _) ⟨_, e1⟩;refine I1.laid (a := s.heap.objs.size + 1) (o := .ins C s.heap.objs.size []) (t' := s.toks) (fun b u q => Heap.get?_push_of_some _ q) (Nat.le_of_eq (Heap.size_push _ _)) ?_;have ne : s.heap.objs.size ≠ s.heap.objs.size + 1 := Nat.ne_of_lt (Nat.lt_succ_self _);refine ⟨by rw [y9 ne, y1], Nat.zero_le _, ne, e2, fun _ => none, (Heap.Ns1.of_empty e3).at fun o q => Heap.get?_push_of_some _ q, fun _ => True.intro, fun y hy => absurd rfl hy⟩
theorem attr_of {prog : Program} {w : World} {env : Env} {e : Expr} {f : Str} {pos : Pos} {s : Shared} {Q : Value -> Shared -> Prop} (hb : attributeBase e f env (eval e env) = eval e env)
    (h : wpAny (model prog w) A (eval e env) (fun o s₁ => wpAny (model prog w) A (getAttr o f true) Q E s₁) E s) : wpAny (model prog w) A (eval (.Attribute e f pos) env) Q E s :=
  Attribute_any_ h (by rw [arm_eval_Attribute, hb])
end
def tFld (K : PySem.W.Frag) (ta : TE) (f : Str) : TE := fun σ H Q => ta σ H fun x H1 => ∃ a C dx fs v, x = .ref a /\ H1 a = some (.ins C dx fs) /\ Cls K C /\ Y4 K C f /\ fs.lookup f = some v /\ Q v H1
def sFld (K : PySem.W.Frag) (ta tv : TE) (f : Str) : TS := fun D σ H => tv σ H fun y H1 => ta σ H1 fun x H2 => ∃ a C dx fs, x = .ref a /\ H2 a = some (.ins C dx fs) /\ Cls K C /\ Y4 K C f /\ fs.length < 1000 /\
  D.nx σ (upd H2 a (.ins C dx (putF f y fs)))
section
variable {X : Cx} {o e value : Expr} {f : Str} {pos pos' tpos : Pos} {ta tv : TE}
theorem k7 (he : PE X e ta) (hb : attributeBase e f X.env (eval e X.env) = eval e X.env) : PE X (.Attribute e f pos) (tFld X.K ta f) := by
  intro pins s σ H Q I h;refine attr_of hb (thn (he pins s σ H _ I h) fun u s1 ⟨x, H1, I1, rx, a, C, dx, fs, v, ex, ea, c, n, l, q⟩ => ?_);subst ex;obtain rfl : u = Value.ref a := rx;exact getattr_ok I1 ea c n l fun u' s2 I2 ru => ⟨v, H1, I2, ru, q⟩
theorem Y2 (ha : PE X o ta) (hv : PE X value tv) (hs : swapsWith value (some (.Attribute o f pos')) pos.line X.env = pure false) : PS X (.Assign [.Attribute o f pos'] value pos) (sFld X.K ta tv f) := by
  intro pins s σ H D I h;refine plainObj_wpAny_Assign_Attribute (thn (hv pins s σ H _ I h) fun u s1 ⟨y, H1, I1, ry, q⟩ => thn (ha pins s1 σ H1 _ I1 q) fun ov s2 ⟨x, H2, I2, rx, a, C, dx, fs, ex, ea, c, n, l, q2⟩ => ?_) hs;subst ex;obtain rfl : ov = Value.ref a := rx;exact setattr_ok I2 ea c n l ry fun s3 I3 => ⟨σ, _, I3, q2⟩
end
section
variable {X : Cx} {pins : List (Addr × Obj)} {σ : St} {H : Hp} {s : Shared} {A : Around} {E : Value -> Shared -> Prop} {Q : Value -> Shared -> Prop} {c : Value} {b : Bool}
inductive TyOf (K : PySem.W.Frag) (H : Hp) : V -> Value -> Prop where
  | non : TyOf K H .non (.type "NoneType")
  | bl (x : Bool) : TyOf K H (.bl x) (.type "bool")
  | int (i : Int) : TyOf K H (.int i) (.type "int")
  | str (x : Str) : TyOf K H (.str x) (.type "str")
  | flt (x : UInt64) : TyOf K H (.flt x) (.type "float")
  | lst {a : Addr} {xs : List V} (e : H a = some (.lst xs)) : TyOf K H (.ref a) (.type "list")
  | frz {a : Addr} {o : Obj} {xs : List V} (e : H a = some (.frz o (.lst xs))) : TyOf K H (.ref a) (.type "list")
  | tup {a : Addr} {xs : List V} (e : H a = some (.tup xs)) : TyOf K H (.ref a) (.type "tuple")
  | dK {a : Addr} {kvs : List (Key × V)} (e : H a = some (.dK kvs)) : TyOf K H (.ref a) (.type "dict")
  | dT {a : Addr} {kvs : List (List Key × V)} (e : H a = some (.dT kvs)) : TyOf K H (.ref a) (.type "dict")
  | ins {a C dx : Addr} {fs : List (Str × V)} (e : H a = some (.ins C dx fs)) (cl : Cls K C) (ha : PySem.W.findIn K (.ref C) "__class__" = some (some (.builtin "object.__class__")))
      (hn : PySem.W.specialIn K (.builtin "object.__class__") "__get__" = some (some (.builtin "getset_descriptor.__get__"))) (htk : PySem.W.takesIn K (.builtin "object.__class__") = some true)
      (hm : PySem.W.mroIn K C (.type "object") = some true) : TyOf K H (.ref a) (.ref C)
end
end L2
namespace L2
open PySem PySem.Spec PyProof.Rows
structure Room (k : Nat) (A : Around) : Prop where
  hd : A.handled = none
  dp : A.depth + 3 * k + 5 < recursionLimit
  un : A.units + 16 * k + 200 < cLine
theorem Room.mono {j k : Nat} {A : Around} (r : Room k A) (h : j <= k) : Room j A := ⟨r.hd, by have := r.dp; omega, by have := r.un; omega⟩
theorem Room.deeper {k : Nat} {A : Around} (r : Room (k + 1) A) (env : Env) : Room k (A.deeper env) :=
  ⟨r.hd, by have := r.dp; show A.depth + 1 + 3 * k + 5 < _; omega, by have := r.un; show A.units + 3 + 16 * k + 200 < _; omega⟩
theorem Room.in1 {k : Nat} {A : Around} (r : Room (k + 1) A) : Room k A.in1 :=
  ⟨r.hd, by have := r.dp; show A.depth + 3 * k + 5 < _; omega, by have := r.un; show A.units + 1 + 16 * k + 200 < _; omega⟩
theorem make_depth {A : Around} {C : Addr} {us : List Value} {kw : List (Str × Value)} : (A.under (.builtin "type.__call__" ⟨.ref C :: us, kw⟩)).depth = A.depth + 1 := by
  first | rfl | simp [Around.under, Code.weight, Code.isCreation, Code.isGuard, Code.isCaller, Code.frames, Code.isFrame, guardIds]
theorem make_units {A : Around} {C : Addr} {us : List Value} {kw : List (Str × Value)} : (A.under (.builtin "type.__call__" ⟨.ref C :: us, kw⟩)).units = A.units + 1 := by
  first | rfl | simp [Around.under, Code.cUnits, Code.frames, Code.isFrame]
theorem Room.make {k : Nat} {A : Around} (r : Room (k + 1) A) (C : Addr) (us : List Value) (kw : List (Str × Value)) : Room k (A.under (.builtin "type.__call__" ⟨.ref C :: us, kw⟩)) :=
  ⟨r.hd, by have := r.dp; rw [make_depth]; omega, by have := r.un; rw [make_units]; omega⟩
theorem Room.depth {k : Nat} {A : Around} (r : Room k A) : A.depth < recursionLimit := by have := r.dp; omega
theorem Room.units {k : Nat} {A : Around} (r : Room k A) : A.units + 64 < cLine := by have := r.un; omega
def tNil : TA := fun _ H Q => Q [] H
def Q0 (ta : TE) (tr : TA) : TA := fun σ H Q => ta σ H fun x H1 => tr σ H1 fun xs H2 => Q (x :: xs) H2
section
variable {X : Cx} {e : Expr} {es : List Expr} {te : TE} {t : TA} {pos : Pos}
theorem w9 : PA X [] tNil := fun _ _ _ _ H Q I h => Calls.spliced_nil ⟨[], H, I, .nil, h⟩
theorem w6 (ha : PE X e te) (hr : PA X es t) (hs : starEach (e :: es) X.env = (false, eval e X.env) :: starEach es X.env := by rfl) : PA X (e :: es) (Q0 te t) := by
  intro pos pins s σ H Q I h;rw [hs];show wpAny _ _ (spliced ((false, eval e X.env) :: backTo pos (starEach es X.env))) _ _ s;refine Calls.spliced_cons (thn (ha pins s σ H _ I h) fun u s1 ⟨x, H1, I1, r1, q1⟩ => ?_);exact thn (hr pos pins s1 σ H1 _ I1 q1) fun us s2 ⟨xs, H2, I2, r2, q2⟩ => ⟨x :: xs, H2, I2, .cons r1 r2, q2⟩
def tTup (t : TA) : TE := fun σ H Q => t σ H fun xs H1 => xs.length <= sizeLine /\ ∀ p, H1 p = none -> Q (.ref p) (upd H1 p (.tup xs))
def tLst (t : TA) : TE := fun σ H Q => t σ H fun xs H1 => xs.length <= sizeLine /\ ∀ p, H1 p = none -> Q (.ref p) (upd H1 p (.lst xs))
theorem pe_tup {x1} (h : PA X es t) : PE X (.Tuple es x1 pos) (tTup t) := by
  intro pins s σ H Q I hq;refine wpAny_Tuple_spliced (thn (h pos pins s σ H _ I hq) fun us s1 ⟨xs, H1, I1, r, z, q⟩ => ⟨by rw [<- r.length]; exact z, ?_⟩);have hf : H1 s1.heap.objs.size = none := I1.hok.fresh (Nat.le_refl _);refine ⟨.ref s1.heap.objs.size, upd H1 s1.heap.objs.size (.tup xs), I1.laid (t' := s1.toks) (fun b u e => Heap.get?_push_of_some _ e) (Nat.le_refl _) ?_, rfl, q _ hf⟩;exact ⟨z, us, r, ⟨_, Heap.get?_push_size _ rfl, rfl, _, rfl⟩⟩
theorem W6 (h : PA X es t) : PE X (.List es pos) (tLst t) := by
  intro pins s σ H Q I hq;refine wpAny_List_spliced (thn (h pos pins s σ H _ I hq) fun us s1 ⟨xs, H1, I1, r, z, q⟩ => ⟨by rw [<- r.length]; exact z, ?_⟩);have hf : H1 s1.heap.objs.size = none := I1.hok.fresh (Nat.le_refl _);refine ⟨.ref s1.heap.objs.size, upd H1 s1.heap.objs.size (.lst xs), I1.laid (t' := s1.toks) (fun b u e => Heap.get?_push_of_some _ e) (Nat.le_refl _) ?_, rfl, q _ hf⟩;exact ⟨z, us, 0, r, Heap.get?_push_size _ rfl⟩
end
abbrev Sp := List V -> Hp -> VK -> XK -> Prop
abbrev CXT := List Env -> Hp -> Shared -> XK -> Value -> Shared -> Prop
structure Env0 (P : Program) (w : World) (K : PySem.W.Frag) (mg : Str -> Option Value) (base : Heap) (A : Around) (outer : List Env) (s : Shared) (H : Hp) : Prop where
  frames : A.frames = some outer
  mod : Mod K mg base
  bs : ∀ b o, base.get? b = some o -> s.heap.get? b = some o /\ H b = none
  bsz : base.objs.size <= s.heap.objs.size
  funs : s.heap.FunFrames base outer
  frf : ∀ b ∈ frs outer, H b = none
  hok : HOk P w H s.heap
  bare : AllBare s.gens
def CE (outer : List Env) (P : Program) (w : World) (H : Hp) (s : Shared) (Q : VK) (u : Value) (s' : Shared) : Prop :=
  ∃ v H', s'.os = s.os /\ AllBare s'.gens /\ Un (frs outer) [] H H' s.heap s'.heap /\ HOk P w H' s'.heap /\ RelV v u /\ Q v H'
def CR (CX : CXT) (outer : List Env) (P : Program) (w : World) (H : Hp) (s : Shared) (Q : VK) (E : XK) (r : Result) (s' : Shared) : Prop :=
  match r with
  | .ok (.ret u) => CE outer P w H s Q u s'
  | .ok _ => False
  | .error e => CX outer H s E e s'
structure FnOk (P : Program) (w : World) (K : PySem.W.Frag) (mg : Str -> Option Value) (base : Heap) (CX : CXT) (k : Nat) (f : Addr) (fd : FuncData) (ps : List Str) (sp : Sp) : Prop where
  len : ∀ vs H Q E, sp vs H Q E -> vs.length = ps.length
  run : ∀ (A : Around) (outer : List Env) (s : Shared) (H : Hp) (args : Args) (us : List Value) (vs : List V) (Q : VK) (E : XK), Room k A -> Env0 P w K mg base A outer s H -> BindsTo s fd args (ps.zip us) -> Vals vs us -> sp vs H Q E ->
    codeAny (model P w) A (.call (.ref f) args) (CR CX outer P w H s Q E) s
theorem FnOk.mono {P : Program} {w : World} {K : PySem.W.Frag} {mg : Str -> Option Value} {base : Heap} {CX : CXT} {j k : Nat} {f : Addr} {fd : FuncData} {ps : List Str} {sp : Sp} (F : FnOk P w K mg base CX j f fd ps sp) (h : j <= k) :
    FnOk P w K mg base CX k f fd ps sp := ⟨F.len, fun A outer s H args us vs Q E hr => F.run A outer s H args us vs Q E (hr.mono h)⟩
theorem FnOk.imp {P : Program} {w : World} {K : PySem.W.Frag} {mg : Str -> Option Value} {base : Heap} {CX : CXT} {k : Nat} {f : Addr} {fd : FuncData} {ps : List Str} {sp sp' : Sp} (F : FnOk P w K mg base CX k f fd ps sp)
    (h : ∀ vs H Q E, sp' vs H Q E -> sp vs H Q E) : FnOk P w K mg base CX k f fd ps sp' :=
  ⟨fun vs H Q E q => F.len vs H Q E (h _ _ _ _ q), fun A outer s H args us vs Q E hr he hb hv hs => F.run A outer s H args us vs Q E hr he hb hv (h _ _ _ _ hs)⟩
theorem Env0.make {P : Program} {w : World} {K : PySem.W.Frag} {mg : Str -> Option Value} {base : Heap} {A : Around} {outer : List Env} {s : Shared} {H : Hp} (e : Env0 P w K mg base A outer s H) (C : Addr) (us : List Value) (kw : List (Str × Value)) :
    Env0 P w K mg base (A.under (.builtin "type.__call__" ⟨.ref C :: us, kw⟩)) outer s H := ⟨by first | exact e.frames | (simpa [Around.under, Code.envs, Code.isFrame, pushEnvs] using e.frames), e.mod, e.bs, e.bsz, e.funs, e.frf, e.hok, e.bare⟩
theorem Env0.in1 {P : Program} {w : World} {K : PySem.W.Frag} {mg : Str -> Option Value} {base : Heap} {A : Around} {outer : List Env} {s : Shared} {H : Hp} (e : Env0 P w K mg base A outer s H) :
    Env0 P w K mg base A.in1 outer s H := ⟨e.frames, e.mod, e.bs, e.bsz, e.funs, e.frf, e.hok, e.bare⟩
section
variable {X : Cx} {pins : List (Addr × Obj)} {σ : St} {H : Hp} {s s' : Shared}
theorem Inv.env0 (I : Inv X pins σ H s) : Env0 X.prog X.w X.K X.mg X.base X.A X.stack s H :=
  ⟨I.ok.frames, I.ok.mod, I.bs, Nat.le_trans I.ok.bsz I.sz, I.stack, I.stkFree, I.hok, I.bare⟩
theorem Inv.after {Q : VK} {u : Value} (I : Inv X pins σ H s) (h : CE X.stack X.prog X.w H s Q u s') : EP X pins σ Q u s' := by
  obtain ⟨v, H', os, bare, un, hok, r, q⟩ := h;obtain ⟨hh, g, d, t, os'⟩ := s';obtain rfl : os' = s.os := os;exact ⟨v, H', I.call (h' := hh) (g' := g) (d' := d) (t' := t) (ch := []) un hok bare (fun b z => absurd z (by simp)), r, q⟩
end
def tCall (sp : Sp) (dvs : List V) (E : XK) (t : TA) : TE := fun σ H Q => t σ H fun vs H1 => sp (vs ++ dvs) H1 Q E
def tMeth (C : Addr) (m : Str) (sp : Sp) (dvs : List V) (E : XK) (ta : TE) (t : TA) : TE := fun σ H Q => ta σ H fun x H1 => ∃ a dx fs, x = .ref a /\ H1 a = some (.ins C dx fs) /\ fs.lookup m = none /\
  t σ H1 fun vs H2 => sp (x :: (vs ++ dvs)) H2 Q E
def tMake (C : Addr) (sp : Sp) (dvs : List V) (E : XK) (t : TA) : TE := fun σ H Q => t σ H fun vs H1 => ∀ x dx, H1 x = none -> H1 dx = none -> dx ≠ x ->
  sp (.ref x :: (vs ++ dvs)) (upd (upd H1 dx (.own x)) x (.ins C dx [])) (fun v H2 => v = .non /\ Q (.ref x) H2) E
def Binds (K : PySem.W.Frag) (fd : FuncData) (ps : List Str) (ds : List Value) : Prop :=
  ∀ (s : Shared) (us : List Value), K.In s.heap -> (us ++ ds).length = ps.length -> BindsTo s fd ⟨us, []⟩ (ps.zip (us ++ ds))
theorem Binds.all {K : PySem.W.Frag} {fd : FuncData} {ps : List Str} (h : ∀ us : List Value, us.length = ps.length -> bindArgs fd ⟨us, []⟩ = pure (ps.zip us)) : Binds K fd ps [] := fun s us _ hl => by
  rw [List.append_nil] at hl ⊢;exact .of_eq (h us hl)
def Passes (CX : CXT) (X : Cx) (E : XK) : Prop := ∀ (pins : List (Addr × Obj)) (σ : St) (H : Hp) (s : Shared) (e : Value) (s' : Shared), Inv X pins σ H s -> CX X.stack H s E e s' -> X.xe e s'
section
variable {X : Cx} {CX : CXT} {k : Nat} {f C : Addr} {fd : FuncData} {ps : List Str} {sp : Sp} {dvs : List V} {ds : List Value} {E : XK} {x m : Str} {p pos apos : Pos} {e o : Expr} {es : List Expr} {ta : TE} {t : TA}
theorem run_fn {pins : List (Addr × Obj)} {σ : St} {H : Hp} {s : Shared} {Q : VK} {us : List Value} {vs : List V} (F : FnOk X.prog X.w X.K X.mg X.base CX k f fd ps sp) (hr : Room k X.A) (hb : Binds X.K fd ps ds) (hd : Vals dvs ds) (hx : Passes CX X E)
    (I : Inv X pins σ H s) (r : Vals vs us) (h : sp (vs ++ dvs) H Q E) : wpAny (model X.prog X.w) X.A (call (.ref f) us) (EP X pins σ Q) X.xe s := by
  have r2 : Vals (vs ++ dvs) (us ++ ds) := r.append hd;have hl : (us ++ ds).length = ps.length := by rw [<- r2.length]; exact F.len _ _ _ _ h
  refine wpAny_call (codeAny_mono (F.run X.A X.stack s H ⟨us, []⟩ (us ++ ds) (vs ++ dvs) Q E hr I.env0 (hb s us I.kIn hl) r2 h) fun r s' hq => ?_);cases r with
  | error e => exact hx pins σ H s e s' I hq
  | ok fl =>
    cases fl with
    | ret u => exact I.after hq
    | next => exact False.elim hq
    | brk => exact False.elim hq
    | cont => exact False.elim hq
theorem pe_call (F : FnOk X.prog X.w X.K X.mg X.base CX k f fd ps sp) (hr : Room k X.A) (hg : Gl X x) (hm : X.mg x = some (.ref f)) (hk : PySem.W.keepIn X.K (.ref f) = true) (hb : Binds X.K fd ps ds) (hd : Vals dvs ds) (hx : Passes CX X E)
    (ha : PA X (e :: es) t) (hdb : (x == ("__debug__" : Str)) = false := by decide) (he : starEach (e :: es) X.env = (false, eval e X.env) :: starEach es X.env := by rfl) (hpl : (backTo pos (starEach es X.env)).any (·.1) = false := by rfl) :
    PE X (.Call (.Name x p) (e :: es) [] pos) (tCall sp dvs E t) := by
  intro pins s σ H Q I h;refine wpAny_Call_Name_kw (ld_glob I hg hm ?_ hdb);refine PySem.W.callWith_K (h₀ := X.base) I.ok.mod.kin hk (thn (ha pos pins s σ H _ I h) fun us s1 ⟨vs, H1, I1, r, q⟩ => ⟨I1.kIn, ?_⟩) he hpl;exact run_fn F hr hb hd hx I1 r q
theorem pe_meth {pl : Sem Bool} (he : PE X o ta) (c : Cls X.K C) (hm : Meth X.K C m f) (F : FnOk X.prog X.w X.K X.mg X.base CX k f fd ps sp) (hr : Room k X.A) (hb : Binds X.K fd ps ds) (hd : Vals dvs ds) (hx : Passes CX X E) (ha : PA X (e :: es) t)
    (hst : starEach (e :: es) X.env = (false, eval e X.env) :: starEach es X.env := by rfl) (hpl : (backTo pos (starEach es X.env)).any (·.1) = false := by rfl)
    (ht : eval (.Call (.Attribute o m apos) (e :: es) [] pos) X.env = (do
      let ov <- eval o X.env
      standAt apos.atName
      let (f, first) <- holding [ov] (getMethod ov m pl)
      callWith pos f first (backTo pos (starEach (e :: es) X.env)) (backToKw pos (keywordEach [] X.env))) := by rfl) :
    PE X (.Call (.Attribute o m apos) (e :: es) [] pos) (tMeth C m sp dvs E ta t) := by
  intro pins s σ H Q I h;refine PySem.W.methodCall_KW (pl := pl) (thn (he pins s σ H _ I h) fun u s1 ⟨x, H1, I1, rx, a, dx, fs, ex, ea, l, q⟩ => ?_) ht;subst ex;obtain rfl : u = Value.ref a := rx;refine getmeth_ok I1 ea c hm l ?_;refine PySem.W.callWith_K (first := [.ref a]) (h₀ := X.base) I.ok.mod.kin hm.kp (thn (ha pos pins s1 σ H1 _ I1 q) fun us s2 ⟨vs, H2, I2, r, q2⟩ => ⟨I2.kIn, ?_⟩) hst hpl;exact run_fn (us := .ref a :: us) (vs := .ref a :: vs) F hr hb hd hx I2 (.cons rfl r) q2
theorem pe_meth0 {pl : Sem Bool} (he : PE X o ta) (c : Cls X.K C) (hm : Meth X.K C m f) (F : FnOk X.prog X.w X.K X.mg X.base CX k f fd ps sp) (hr : Room k X.A) (hb : Binds X.K fd ps ds) (hd : Vals dvs ds) (hx : Passes CX X E)
    (ht : eval (.Call (.Attribute o m apos) [] [] pos) X.env = (do
      let ov <- eval o X.env
      standAt apos.atName
      let (f, first) <- holding [ov] (getMethod ov m pl)
      callWith pos f first (backTo pos (starEach [] X.env)) (backToKw pos (keywordEach [] X.env))) := by rfl) :
    PE X (.Call (.Attribute o m apos) [] [] pos) (tMeth C m sp dvs E ta tNil) := by
  intro pins s σ H Q I h;refine PySem.W.methodCall_KW (pl := pl) (thn (he pins s σ H _ I h) fun u s1 ⟨x, H1, I1, rx, a, dx, fs, ex, ea, l, q⟩ => ?_) ht;subst ex;obtain rfl : u = Value.ref a := rx;refine getmeth_ok I1 ea c hm l ?_;exact PySem.W.callWith_K0 (first := [.ref a]) I1.kIn hm.kp (run_fn (us := [.ref a]) (vs := [.ref a]) F hr hb hd hx I1 (.cons rfl .nil) q)
structure Mk (K : PySem.W.Frag) (C f : Addr) : Prop where
  makes : PySem.W.makesIn K C = true
  init : PySem.W.findIn K (.ref C) "__init__" = some (some (.ref f))
  fn : PySem.W.isFn K (.ref f) = true
  kp : PySem.W.keepIn K (.ref C) = true
theorem run_make {pins : List (Addr × Obj)} {σ : St} {H : Hp} {s : Shared} {Q : VK} {us : List Value} {vs : List V} (M : Mk X.K C f) (F : FnOk X.prog X.w X.K X.mg X.base CX k f fd ps sp) (hr : Room (k + 1) X.A) (hb : Binds X.K fd ps ds) (hd : Vals dvs ds)
    (hx : Passes CX X E) (I : Inv X pins σ H s) (r : Vals vs us)
    (h : ∀ x dx, H x = none -> H dx = none -> dx ≠ x -> sp (.ref x :: (vs ++ dvs)) (upd (upd H dx (.own x)) x (.ins C dx [])) (fun v H2 => v = .non /\ Q (.ref x) H2) E) :
    wpAny (model X.prog X.w) X.A (call (.ref C) us) (EP X pins σ Q) X.xe s := by
  have hq := h (s.heap.objs.size + 1) s.heap.objs.size (I.hok.fresh (Nat.le_succ _)) (I.hok.fresh (Nat.le_refl _)) (Nat.ne_of_lt (Nat.lt_succ_self _));have I2 := Inv.made (C := C) I;have r2 : Vals (V.ref (s.heap.objs.size + 1) :: (vs ++ dvs)) (Value.ref (s.heap.objs.size + 1) :: (us ++ ds)) := .cons rfl (r.append hd)
  have hl : (Value.ref (s.heap.objs.size + 1) :: us ++ ds).length = ps.length := by
    have e := r2.length;rw [F.len _ _ _ _ hq] at e;exact e.symm
  refine wpAny_call (make_map (f := f) I.kIn M.makes M.init (beq_iff_eq.mp M.fn) (codeAny_mono (F.run _ X.stack _ _ ⟨Value.ref (s.heap.objs.size + 1) :: us, []⟩ (Value.ref (s.heap.objs.size + 1) :: (us ++ ds)) _ _ E (hr.make C us [])
    (I2.env0.make C us []) (hb _ (Value.ref (s.heap.objs.size + 1) :: us) I2.kIn hl) r2 hq) fun r s' hq' => ?_))
  cases r with
  | error e => exact hx pins σ _ _ e s' I2 hq'
  | ok fl =>
    cases fl with
    | ret u =>
      obtain ⟨v, H', I3, rv, ev, q3⟩ := I2.after hq';subst ev;exact ⟨rv, ⟨V.ref (s.heap.objs.size + 1), H', I3, rfl, q3⟩⟩
    | next => exact False.elim hq'
    | brk => exact False.elim hq'
    | cont => exact False.elim hq'
theorem pe_make (M : Mk X.K C f) (F : FnOk X.prog X.w X.K X.mg X.base CX k f fd ps sp) (hr : Room (k + 1) X.A) (hg : Gl X x) (hm : X.mg x = some (.ref C)) (hb : Binds X.K fd ps ds) (hd : Vals dvs ds) (hx : Passes CX X E)
    (ha : PA X (e :: es) t) (hdb : (x == ("__debug__" : Str)) = false := by decide) (he : starEach (e :: es) X.env = (false, eval e X.env) :: starEach es X.env := by rfl) (hpl : (backTo pos (starEach es X.env)).any (·.1) = false := by rfl) :
    PE X (.Call (.Name x p) (e :: es) [] pos) (tMake C sp dvs E t) := by
  intro pins s σ H Q I h;refine wpAny_Call_Name_kw (ld_glob I hg hm ?_ hdb);refine PySem.W.callWith_K (h₀ := X.base) I.ok.mod.kin M.kp (thn (ha pos pins s σ H _ I h) fun us s1 ⟨vs, H1, I1, r, q⟩ => ⟨I1.kIn, ?_⟩) he hpl;exact run_make M F hr hb hd hx I1 r q
end
section
variable {X : Cx} {CX : CXT} {k : Nat} {f C : Addr} {fd : FuncData} {ps ks : List Str} {sp : Sp} {E : XK} {x m : Str} {p pos apos kpos : Pos} {e o : Expr} {es : List Expr} {kws : List Keyword} {te ta : TE} {t tk : TA} {nm : Option Str}
structure KBinds (K : PySem.W.Frag) (fd : FuncData) (ps ks : List Str) (g : List Value -> List Value -> List Value) (gV : List V -> List V -> List V) : Prop where
  to : ∀ (s : Shared) (us ws : List Value), K.In s.heap -> (g us ws).length = ps.length -> BindsTo s fd ⟨us, ks.zip ws⟩ (ps.zip (g us ws))
  rel : ∀ {vs : List V} {us : List Value} {zs : List V} {ws : List Value}, Vals vs us -> Vals zs ws -> Vals (gV vs zs) (g us ws)
variable {g : List Value -> List Value -> List Value} {gV : List V -> List V -> List V}
end
structure z7 (N P : List Str) (sc : Scope) : Prop where
  kind : sc.kind = .function
  co : sc.isCoroutine = false
  gen : sc.isGenerator = false
  nd : N.Nodup
  pre : N.take P.length = P
  par : ∀ x ∈ P, sc.names.lookup x = some .local \/ sc.names.lookup x = some .cell
  nofree : ∀ y ∈ sc.names, y.2 ≠ .free
theorem bindL_out {kindOf : Str -> Option NameKind} {x : Str} : ∀ {binds : List (Str × Value)} {m : Str -> Option Value}, (∀ v, (x, v) ∉ binds) -> bindL kindOf binds m x = m x
  | [], _, _ => rfl
  | (n, v) :: r, m, h => by
    unfold bindL;rw [bindL_out fun w hw => h w (List.mem_cons_of_mem _ hw)]
    split
    · have : x ≠ n := by rintro rfl; exact h v List.mem_cons_self
      simp [this]
    · rfl
theorem bindC_out {kindOf : Str -> Option NameKind} {x : Str} : ∀ {binds : List (Str × Value)} {m : Str -> Option Value}, (∀ v, (x, v) ∉ binds) -> bindC kindOf binds m x = m x
  | [], _, _ => rfl
  | (n, v) :: r, m, h => by
    unfold bindC;rw [bindC_out fun w hw => h w (List.mem_cons_of_mem _ hw)]
    split
    · rfl
    · have : x ≠ n := by rintro rfl; exact h v List.mem_cons_self
      simp [this]
theorem bindL_get {kindOf : Str -> Option NameKind} {x : Str} {v : Value} : ∀ {P : List Str} {vs : List Value} {i : Nat} {m : Str -> Option Value}, P.Nodup -> P[i]? = some x -> vs[i]? = some v -> kindOf x = some .local ->
    bindL kindOf (P.zip vs) m x = some v
  | [], _, _, _, _, h, _, _ => by simp at h
  | _ :: _, [], _, _, _, _, h, _ => by simp at h
  | p :: P, w :: vs, 0, m, nd, h1, h2, hk => by
    simp at h1 h2; subst h1; subst h2;show bindL kindOf ((p, w) :: P.zip vs) m p = _;unfold bindL;rw [bindL_out fun v hv => (List.nodup_cons.mp nd).1 (List.of_mem_zip hv).1, if_pos hk];simp
  | p :: P, w :: vs, i + 1, m, nd, h1, h2, hk => by
    show bindL kindOf ((p, w) :: P.zip vs) m x = _;unfold bindL;exact bindL_get (i := i) (List.nodup_cons.mp nd).2 (by simpa using h1) (by simpa using h2) hk
theorem bindC_get {kindOf : Str -> Option NameKind} {x : Str} {v : Value} : ∀ {P : List Str} {vs : List Value} {i : Nat} {m : Str -> Option Value}, P.Nodup -> P[i]? = some x -> vs[i]? = some v -> kindOf x ≠ some .local ->
    bindC kindOf (P.zip vs) m x = some v
  | [], _, _, _, _, h, _, _ => by simp at h
  | _ :: _, [], _, _, _, _, h, _ => by simp at h
  | p :: P, w :: vs, 0, m, nd, h1, h2, hk => by
    simp at h1 h2; subst h1; subst h2;show bindC kindOf ((p, w) :: P.zip vs) m p = _;unfold bindC;rw [bindC_out fun v hv => (List.nodup_cons.mp nd).1 (List.of_mem_zip hv).1, if_neg hk];simp
  | p :: P, w :: vs, i + 1, m, nd, h1, h2, hk => by
    show bindC kindOf ((p, w) :: P.zip vs) m x = _;unfold bindC;exact bindC_get (i := i) (List.nodup_cons.mp nd).2 (by simpa using h1) (by simpa using h2) hk
def start (N : List Str) (vs : List V) : St := vs.map some ++ List.replicate (N.length - vs.length) none
def cxOf (CX : CXT) (P : Program) (w : World) (K : PySem.W.Frag) (mg : Str -> Option Value) (base : Heap) (N : List Str) (qual : Str) (scope : Scope) (f : Addr) (cd : Value) (A : Around) (outer : List Env) (s : Shared) (H : Hp) (E : XK) : Cx where
  prog := P
  w := w
  K := K
  mg := mg
  base := base
  A := A.deeper (envOfC qual scope s.heap.objs.size f cd)
  N := N
  s_0 := s
  H_0 := H
  env := envOfC qual scope s.heap.objs.size f cd
  outer := outer
  stack := envOfC qual scope s.heap.objs.size f cd :: outer
  ex := []
  calm := true
  fn := fun _ => true
  pn := []
  xe := fun e s' => wpAny (model P w) (A.deeper (envOfC qual scope s.heap.objs.size f cd)) (leaving (envOfC qual scope s.heap.objs.size f cd) e) (fun _ s'' => CX outer H s E e s'') (fun e' s'' => CX outer H s E e' s'') s'
theorem cell_has {sc : Scope} {n : Nat} {x : Str} (h : sc.names.lookup x = some .cell) : ∃ c, (cellsFrom n sc.names []).lookup x = some c := by
  have q := PySem.W.cellsFrom_some sc.names n [] (.inl h);exact Option.isSome_iff_exists.mp q
theorem inv_start {CX : CXT} {P : Program} {w : World} {K : PySem.W.Frag} {mg : Str -> Option Value} {base : Heap} {N ps : List Str} {qual : Str} {scope : Scope} {f : Addr} {cd : Value} {A : Around} {outer : List Env} {s s1 : Shared} {H : Hp} {E : XK} {us : List Value} {vs : List V}
    (S : z7 N ps scope) (hd : A.handled = none) (e0 : Env0 P w K mg base A outer s H) (hl : vs.length = ps.length) (r : Vals vs us)
    (x : InCallC s s.heap.objs.size (bindL (envOfC qual scope s.heap.objs.size f cd).kindOf (ps.zip us) fun _ => none) (cellsFrom (s.heap.objs.size + 1) scope.names []) (bindC (envOfC qual scope s.heap.objs.size f cd).kindOf (ps.zip us) fun _ => none) s1) :
    Inv (cxOf CX P w K mg base N qual scope f cd A outer s H E) [] (start N vs) H s1 := by
  have hpl : ps.length <= N.length := by have := congrArg List.length S.pre; rw [List.length_take] at this; omega
  obtain ⟨h1, tk, rfl, hk⟩ := x.done;have noA : ∀ b : Addr, b ∉ (cxOf CX P w K mg base N qual scope f cd A outer s H E).ex := fun b z => absurd (show b ∈ ([] : List Addr) from z) (by simp)
  refine ⟨⟨e0.mod, S.kind, rfl, rfl, Nat.le_refl _, fun y z c h1 h2 => ?_, fun y hy => ?_, fun y c _ h => ?_, fun _ => hd, Around.frames_deeper e0.frames, .inr ⟨rfl, rfl⟩, fun b z => absurd z (noA b), e0.bs, e0.bsz, fun b _ _ => noA b, fun b z => absurd z (noA b), e0.funs, e0.frf⟩,
    rfl, e0.bare, Un.kept hk, ⟨_, x.toInCall.ns, fun i y v h1 h2 h3 => ?_⟩, fun y c h => ⟨_, x.cell y c h⟩, e0.hok.fresh (Nat.le_refl _), fun y c h => ?_, fun p hp => absurd (show p ∈ ([] : List (Addr × Obj)) from hp) (by simp), e0.hok.kept hk, ?_⟩
  · exact name_of_addr x.apart (PySem.mem_of_lookup h1) (PySem.mem_of_lookup h2)
  · have hy : scope.names.lookup y = some .cell \/ scope.names.lookup y = some .free := hy;rcases hy with hy | hy
    · exact cell_has hy
    · exact absurd rfl (S.nofree _ (PySem.mem_of_lookup hy))
  · exact Nat.le_of_lt (x.above y c (PySem.mem_of_lookup h))
  · have hi : i < vs.length := by
      unfold start at h2;by_cases hi : i < vs.length
      · exact hi
      · rw [List.getElem?_append_right (by simpa using hi)] at h2;rw [List.getElem?_replicate] at h2
        split at h2 <;> cases h2
    have ha : vs[i]? = some v := by
      unfold start at h2;rw [List.getElem?_append_left (by simpa using hi), List.getElem?_map] at h2;cases e : vs[i]? with
      | none => rw [e] at h2; cases h2
      | some a => rw [e] at h2; cases h2; rfl
    obtain ⟨u, hu, rv⟩ := r.get ha
    have hp : ps[i]? = some y := by
      rw [<- S.pre, List.getElem?_take_of_lt (by omega)]; exact h1
    have ndP : ps.Nodup := by rw [<- S.pre]; exact S.nd.sublist (List.take_sublist _ _)
    refine ⟨u, rv, ?_⟩;rcases S.par y (List.mem_of_getElem? hp) with k | k
    · exact .inl ⟨k, bindL_get ndP hp hu k⟩
    · obtain ⟨c, e⟩ := cell_has (n := s.heap.objs.size + 1) k;refine .inr ⟨.inl k, c, e, ?_⟩;have q := x.cell y c e;rw [bindC_get ndP hp hu (by show scope.names.lookup y ≠ _; rw [k]; decide)] at q;exact q
  · exact e0.hok.fresh (Nat.le_of_lt (x.above y c (PySem.mem_of_lookup h)))
  · unfold start;show _ = N.length;rw [List.length_append, List.length_map, List.length_replicate];omega
theorem fn_of {CX : CXT} {P : Program} {w : World} {K : PySem.W.Frag} {mg : Str -> Option Value} {base : Heap} {k : Nat} {f : Addr} {name qual : Str} {params : Arguments} {body : List Stmt} {scope : Scope} {dV kV doc pm cdv ct oc : Value} {an od : Option Addr}
    {osl : Array (Option Value)} {N ps : List Str} {sp : Sp} (lk : K.lookup f = some ⟨oc, od, .func (PySem.W.fnOf name qual params body scope dV kV doc pm an cdv ct), osl⟩) (hcd : PySem.W.codeIn K cdv qual = true) (S : z7 N ps scope)
    (len : ∀ vs H Q E, sp vs H Q E -> vs.length = ps.length)
    (hbody : ∀ (A : Around) (outer : List Env) (s : Shared) (H : Hp) (vs : List V) (Q : VK) (E : XK), Room k (A.deeper (envOfC qual scope s.heap.objs.size f cdv)) -> sp vs H Q E ->
      ∃ t, PSs (cxOf CX P w K mg base N qual scope f cdv A outer s H E) body t /\ t { nx := fun _ H' => Q .non H', rt := Q } (start N vs) H) :
    FnOk P w K mg base CX (k + 1) f (PySem.W.fnOf name qual params body scope dV kV doc pm an cdv ct) ps sp := by
  refine ⟨len, fun A outer s H args us vs Q E hr e0 hb r hsp => ?_⟩;have hl := len _ _ _ _ hsp;have KX : K.In s.heap := e0.mod.kin.keeps fun b o e => (e0.bs b o e).1
  have lim : s.heap.NoLimit := e0.mod.nolimit.keeps fun b o e => (e0.bs b o e).1
  have hkind : ∀ y ∈ ps.zip us, scope.names.lookup y.1 = some .local \/ (scope.names.lookup y.1 = some .cell /\ ((cellsFrom (s.heap.objs.size + 1) scope.names []).lookup y.1).isSome = true) := fun ⟨n, v⟩ hy => by
    rcases S.par n (List.of_mem_zip hy).1 with q | q
    · exact .inl q
    · exact .inr ⟨q, PySem.W.cellsFrom_some _ _ _ (.inl q)⟩
  refine codeAny_call_function hr.depth (KX _ _ lk) rfl S.co S.gen rfl (PySem.W.codeRec_of KX hcd) (hb _ _ _ _ ?_);refine wpAny_newFunctionEnv_cells S.kind hkind fun env he s1 x => ?_
  subst he;refine ⟨lim.keeps x.toInCall.keep, codeAny_func ?_⟩;obtain ⟨t, ht, hq⟩ := hbody A outer s H vs Q E (hr.deeper _) hsp;have I : Inv (cxOf CX P w K mg base N qual scope f cdv A outer s H E) [] (start N vs) H s1 := inv_start S hr.hd e0 hl r x;refine wpAny_mono (ht [] s1 (start N vs) H _ I hq) (fun fl s' hs => ?_) fun e s' hs => hs
  have fin : ∀ {σ' : St} {H' : Hp} {v : V} {u : Value}, Inv (cxOf CX P w K mg base N qual scope f cdv A outer s H E) [] σ' H' s' -> RelV v u -> Q v H' -> CE outer P w H s Q u s' :=
    fun {σ' H' v u} J rv q => ⟨v, H', J.os, J.bare, J.base, J.hok, rv, q⟩
  cases fl with
  | ret u =>
    obtain ⟨v, σ', H', J, rv, q⟩ := hs;exact fin J rv q
  | next =>
    obtain ⟨σ', H', J, q⟩ := hs;exact fin (v := V.non) (u := Value.none) J rfl q
  | brk =>
    obtain ⟨_, _, _, q⟩ := hs;exact False.elim q
  | cont =>
    obtain ⟨_, _, _, q⟩ := hs;exact False.elim q
end L2
namespace L2
open PySem PySem.Spec PyProof.Rows
section
variable {X : Cx} {x : Str} {p pos : Pos} {e : Expr} {es : List Expr} {t : TA} {id T : String} {r : List V -> Hp -> VK -> Prop}
def tCB (r : List V -> Hp -> VK -> Prop) (t : TA) : TE := fun σ H Q => t σ H fun vs H1 => r vs H1 Q
theorem pe_callB (hc : CallR X (.builtin id) r) (hg : Gl X x) (hm : X.mg x = none) (hv : bootBuiltins x = some (.builtin id)) (ha : PA X (e :: es) t) (hn : x ≠ "__name__" := by decide) (hdb : (x == ("__debug__" : Str)) = false := by decide)
    (he : starEach (e :: es) X.env = (false, eval e X.env) :: starEach es X.env := by rfl) (hpl : (backTo pos (starEach es X.env)).any (·.1) = false := by rfl) : PE X (.Call (.Name x p) (e :: es) [] pos) (tCB r t) := by
  intro pins s σ H Q I h;refine wpAny_Call_Name_kw (ld_blt I hg hm hv ?_ hn hdb);exact PyProof.Rows.callWith_builtin1 (thn (ha pos pins s σ H _ I h) fun us s1 ⟨vs, H1, I1, r1, q1⟩ => hc pins s1 σ H1 vs us Q I1 r1 q1) he hpl
theorem pe_callTy (hc : CallR X (.type T) r) (hg : Gl X x) (hm : X.mg x = none) (hv : bootBuiltins x = some (.type T)) (ha : PA X (e :: es) t) (hn : x ≠ "__name__" := by decide) (hdb : (x == ("__debug__" : Str)) = false := by decide)
    (he : starEach (e :: es) X.env = (false, eval e X.env) :: starEach es X.env := by rfl) (hpl : (backTo pos (starEach es X.env)).any (·.1) = false := by rfl) : PE X (.Call (.Name x p) (e :: es) [] pos) (tCB r t) := by
  intro pins s σ H Q I h;refine wpAny_Call_Name_kw (ld_blt I hg hm hv ?_ hn hdb);exact PyProof.Rows.callWith_type1 (thn (ha pos pins s σ H _ I h) fun us s1 ⟨vs, H1, I1, r1, q1⟩ => hc pins s1 σ H1 vs us Q I1 r1 q1) he hpl
end
end L2
namespace HT
open PySem PyProof.Rows
section
open PySem.SeqAt
open PySem.AutoSeq1 (wpAny_loadPart')
open PySem.MeetsSeq PySem.MeetsSeq2 PySem.MeetsSeq3
end
section
variable {prog : Program} {w : World} {A : Around} {E : Value -> Shared -> Prop} {s : Shared}
def sIx (n d : Nat) : Option Int -> Nat
  | none => d
  | some v => if v < 0 then (v + (n : Int)).toNat else min v.toNat n
theorem sIx_nat (n d k : Nat) : sIx n d (some (k : Int)) = min k n := by
  show (if (k : Int) < 0 then ((k : Int) + (n : Int)).toNat else min (k : Int).toNat n) = min k n;rw [if_neg (by omega), Int.toNat_natCast]
end
end HT
namespace L2
open PySem PySem.Spec PyProof.Rows
abbrev TO := St -> Hp -> (Option Int -> Hp -> Prop) -> Prop
def PO (X : Cx) (e : Option Expr) (t : TO) : Prop :=
  ∀ (pins : List (Addr × Obj)) (s : Shared) (σ : St) (H : Hp) (Q : Option Int -> Hp -> Prop), Inv X pins σ H s -> t σ H Q ->
    wpAny (model X.prog X.w) X.A (evalPart e X.env) (fun u s' => ∃ o H', Inv X pins σ H' s' /\ IsPart u o /\ Q o H') X.xe s
def tNoPart : TO := fun _ H Q => Q none H
def tPart (t : TE) : TO := fun σ H Q => t σ H fun x H1 => ∃ i, x = .int i /\ Q (some i) H1
section
variable {X : Cx} {e : Expr} {te : TE} {lo hi : Option Expr} {tl th : TO} {pos p2 : Pos}
theorem po_none : PO X none tNoPart := by
  intro pins s σ H Q I h;rw [evalPart_none];exact wpAny_pure ⟨none, H, I, .none, h⟩
theorem Q5 (h : PE X e te) : PO X (some e) (tPart te) := by
  intro pins s σ H Q I hw;rw [evalPart_some];refine thn (h pins s σ H _ I hw) fun u s1 ⟨x, H1, I1, r1, q1⟩ => ?_
  obtain ⟨i, rfl, q⟩ := q1;obtain ⟨t, rfl⟩ := r1;exact ⟨some i, H1, I1, .int i t, q⟩
def SlR (X : Cx) (r : V -> Option Int -> Option Int -> Hp -> VK -> Prop) : Prop :=
  ∀ (pins : List (Addr × Obj)) (s : Shared) (σ : St) (H : Hp) (x : V) (v vl vu : Value) (lo hi : Option Int) (sl : Addr) (Q : VK), Inv X pins σ H s -> RelV x v -> s.heap.IsSliceOf sl vl vu .none -> IsPart vl lo -> IsPart vu hi -> r x lo hi H Q ->
    ∃ T id, typeLookup (.type T) "__getitem__" = pure (some (.builtin id)) /\ s.TypeIs v T /\ wpAny (model X.prog X.w) X.A (getItem v (.ref sl)) (EP X pins σ Q) X.xe s
def tSl (r : V -> Option Int -> Option Int -> Hp -> VK -> Prop) (te : TE) (tl th : TO) : TE := fun σ H Q => te σ H fun x H1 => tl σ H1 fun l H2 => th σ H2 fun u H3 => r x l u H3 Q
theorem Y7 {r : V -> Option Int -> Option Int -> Hp -> VK -> Prop} (hr : SlR X r) (he : PE X e te) (hl : PO X lo tl) (hu : PO X hi th) : PE X (.Subscript e (.Slice lo hi none p2) pos) (tSl r te tl th) := by
  intro pins s σ H Q I h;refine Subscript_ (thn (he pins s σ H _ I h) fun v s1 ⟨x, H1, I1, r1, q1⟩ => ?_);refine wpAny_Slice (thn (hl pins s1 σ H1 _ I1 q1) fun vl s2 ⟨l, H2, I2, pl, q2⟩ => thn (hu pins s2 σ H2 _ I2 q2) fun vu s3 ⟨u, H3, I3, pu, q3⟩ => ?_);rw [evalPart_none];refine wpAny_pure ?_;have I4 : Inv X pins σ H3 { s3 with heap := s3.heap.push { cls := .type "slice", data := .fields #[vl, vu, .none] } } := I3.kept (t' := s3.toks) fun b ob q => Heap.get?_push_of_some _ q
  obtain ⟨T, id, hT, ht, hg⟩ := hr pins { s3 with heap := s3.heap.push { cls := .type "slice", data := .fields #[vl, vu, .none] } } σ H3 x v vl vu l u s3.heap.objs.size Q I4 r1 (Heap.IsSliceOf.new ..) pl pu q3;show wpAny (model X.prog X.w) X.A (subscriptTail e (.Slice lo hi none p2) v (.ref s3.heap.objs.size)) (EP X pins σ Q) X.xe { s3 with heap := s3.heap.push { cls := .type "slice", data := .fields #[vl, vu, .none] } };exact tail_any (ops := [.ref s3.heap.objs.size, v]) ht hT hg (by with_unfolding_all rfl)
def cutV (xs : List V) (lo hi : Option Int) : List V := (xs.drop (HT.sIx xs.length 0 lo)).take (HT.sIx xs.length xs.length hi - HT.sIx xs.length 0 lo)
theorem cutV_length (xs : List V) (lo hi : Option Int) : (cutV xs lo hi).length <= xs.length := by
  unfold cutV;rw [List.length_take, List.length_drop];omega
end
end L2
namespace L2
open PySem PySem.Spec PyProof.Rows
def ixN (n : Nat) (i : Int) : Option Nat := if 0 <= i then (if i < n then some i.toNat else none) else if -(n : Int) <= i then some (i + n).toNat else none
def atI {α : Type} (xs : List α) (i : Int) : Option α := (ixN xs.length i).bind fun j => xs[j]?
theorem ixN_seq {n : Nat} {i : Int} {j : Nat} (h : ixN n i = some j) : seqIndex? i n = some j /\ j < n /\ -(n : Int) <= i /\ i < n := by
  unfold ixN at h;by_cases h0 : 0 <= i
  · rw [if_pos h0] at h;by_cases h1 : i < n
    · rw [if_pos h1] at h;have e : i.toNat = j := Option.some.inj h;exact ⟨by rw [seqIndex_of h0 h1, e], by omega, by omega, h1⟩
    · rw [if_neg h1] at h; cases h
  · rw [if_neg h0] at h;by_cases h1 : -(n : Int) <= i
    · rw [if_pos h1] at h;have e : (i + n).toNat = j := Option.some.inj h;exact ⟨by rw [seqIndex_neg (by omega) h1, e], by omega, h1, by omega⟩
    · rw [if_neg h1] at h; cases h
theorem atI_get {α : Type} {xs : List α} {i : Int} {v : α} (h : atI xs i = some v) : ∃ j, seqIndex? i xs.length = some j /\ xs[j]? = some v /\ j < xs.length /\ -(xs.length : Int) <= i /\ i < xs.length := by
  unfold atI at h;cases e : ixN xs.length i with
  | none => rw [e] at h; cases h
  | some j =>
    rw [e] at h;obtain ⟨h1, h2, h3, h4⟩ := ixN_seq e;exact ⟨j, h1, h, h2, h3, h4⟩
theorem atI_nat {α : Type} {xs : List α} {j : Nat} {v : α} (h : xs[j]? = some v) : atI xs (j : Int) = some v := by
  have hj : j < xs.length := (List.getElem?_eq_some_iff.mp h).1
  have e : ixN xs.length (j : Int) = some j := by
    unfold ixN;rw [if_pos (by omega), if_pos (by omega)]; simp
  unfold atI; rw [e]; exact h
def PlainIx (b : Expr) : Prop := ∀ o i, subscripted b false o i = operate [o, i] (getItem o i)
def IxR (X : Cx) (r : R2) : Prop :=
  ∀ (value slice : Expr) (pins : List (Addr × Obj)) (s : Shared) (σ : St) (H : Hp) (x y : V) (v u : Value) (Q : VK), Inv X pins σ H s -> RelV x v -> RelV y u -> r x y H Q ->
    subscripted slice false v u = operate [v, u] (getItem v u) -> wpAny (model X.prog X.w) X.A (subscriptTail value slice v u) (EP X pins σ Q) X.xe s
def MtR (X : Cx) (id : String) (r : V -> List V -> Hp -> VK -> Prop) : Prop :=
  ∀ (pins : List (Addr × Obj)) (s : Shared) (σ : St) (H : Hp) (x : V) (xs : List V) (v : Value) (us : List Value) (Q : VK), Inv X pins σ H s -> RelV x v -> Vals xs us -> r x xs H Q ->
    wpAny (model X.prog X.w) X.A (call (.builtin id) (v :: us)) (EP X pins σ Q) X.xe s
section
variable {X : Cx} {a b : Expr} {ta tb : TE} {pos : Pos}
theorem Q8 {r : R2} (hr : IxR X r) (ha : PE X a ta) (hb : PE X b tb) (hs : PlainIx b) : PE X (.Subscript a b pos) (tOp r ta tb) := by
  intro pins s σ H Q I h;exact Subscript_ (binT ha hb I h fun v u s2 x y H2 I2 rx ry q => hr a b pins s2 σ H2 x y v u Q I2 rx ry q (hs _ _))
def rIxL (K : PySem.W.Frag) : R2 := fun x y H Q => ∃ p xs i v, x = .ref p /\ y = .int i /\ SqL K H p xs /\ atI xs i = some v /\ Q v H
theorem v8 : IxR X (rIxL X.K) := by
  intro value slice pins s σ H x y v u Q I rx ry h hs;obtain ⟨p, xs, i, z, rfl, rfl, hq, he, q⟩ := h;cases rx;obtain ⟨t, rfl⟩ := ry;obtain ⟨its, r, pl, hz⟩ := I.list hq;obtain ⟨j, h1, h2, h3, h4, h5⟩ := atI_get he;obtain ⟨w, ew, rw'⟩ := r.get h2;have hl := r.length;have hn := line63;have fin : EP X pins σ Q w s := ⟨z, H, I, rw', q⟩;by_cases h0 : 0 <= i
  · have hj : i.toNat = j := by
      rw [seqIndex_of h0 h5] at h1;exact Option.some.inj h1
    exact item_listR pl.isList h0 (by omega) (by rw [hj]; simpa using ew) fin hs
  · have hj : (i + (its.toArray.size : Int)).toNat = j := by
      rw [seqIndex_neg (by omega) h4] at h1;rw [List.size_toArray, <- hl];exact Option.some.inj h1
    exact subscriptTail_builtinR (x := w) pl.isList.typeIs slot_list_getitem.lookup
      (wpAny_getItem_list_neg (Q := fun r s' => r = w /\ EP X pins σ Q r s') pl.isList (by omega) (by rw [List.size_toArray] <;> omega) (by omega) (by rw [hj]; simpa using ew) ⟨rfl, fin⟩) hs
theorem Inv.lst {pins : List (Addr × Obj)} {σ : St} {H : Hp} {s : Shared} {p : Addr} {xs : List V} (I : Inv X pins σ H s) (h : H p = some (.lst xs)) :
    ∃ (its : List Value) (n : Nat), Vals xs its /\ s.heap.get? p = some { cls := .type "list", data := .seq its.toArray n } /\ xs.length <= sizeLine := by
  obtain ⟨z, its, n, r, e⟩ := I.hok p _ h;exact ⟨its, n, r, e, z⟩
theorem slice_bounds (lo hi : Option Int) (n : Nat) : (sliceBounds lo hi none n).1 = ((HT.sIx n 0 lo : Nat) : Int) /\ (sliceBounds lo hi none n).2.1 = ((HT.sIx n n hi : Nat) : Int) /\ (sliceBounds lo hi none n).2.2 = 1 := by
  refine ⟨?_, ?_, rfl⟩
  · cases lo with
    | none => simp [sliceBounds, HT.sIx]
    | some i =>
      simp only [sliceBounds, HT.sIx, Option.getD_none, show (1 : Int) > 0 by decide, if_true];by_cases h : i < 0
      · simp only [h, if_true] <;> omega
      · simp only [h, if_false] <;> omega
  · cases hi with
    | none => simp [sliceBounds, HT.sIx]
    | some i =>
      simp only [sliceBounds, HT.sIx, Option.getD_none, show (1 : Int) > 0 by decide, if_true];by_cases h : i < 0
      · simp only [h, if_true] <;> omega
      · simp only [h, if_false] <;> omega
theorem slicePick_cut (its : List Value) (lo hi : Option Int) : slicePick its.toArray lo hi none = ((its.drop (HT.sIx its.length 0 lo)).take (HT.sIx its.length its.length hi - HT.sIx its.length 0 lo)).toArray := by
  obtain ⟨h1, h2, h3⟩ := slice_bounds lo hi its.toArray.size;unfold slicePick;rw [h1, h2, h3];simp only [sliceRange_one, pick_run, List.size_toArray] <;> rfl
def rSlL (K : PySem.W.Frag) : V -> Option Int -> Option Int -> Hp -> VK -> Prop := fun x lo hi H Q => ∃ a xs, x = .ref a /\ SqL K H a xs /\ ∀ p, H p = none -> Q (.ref p) (upd H p (.lst (cutV xs lo hi)))
theorem sl_list : SlR X (rSlL X.K) := by
  intro pins s σ H x v vl vu lo hi sl Q I rx hs pl pu h;obtain ⟨a, xs, rfl, hx, q⟩ := h;cases rx;obtain ⟨its, r, ht, hz⟩ := I.list hx;have hlen := r.length;refine ⟨"list", _, slot_list_getitem.lookup, ht.isList.typeIs, ?_⟩;refine wpAny_getItem_list_slice ht.isList hs pl pu .none (by simp) ?_ (by rw [List.size_toArray] <;> omega);rw [slicePick_cut, <- hlen];refine ⟨.ref s.heap.objs.size, _, I.laid (t' := s.toks) (o := .lst (cutV xs lo hi)) (fun b ob q => Heap.get?_push_of_some _ q) (Nat.le_refl _) ?_, rfl, q _ (I.hok.fresh (Nat.le_refl _))⟩;exact ⟨Nat.le_trans (cutV_length xs lo hi) hz, _, 0, (r.drop (HT.sIx xs.length 0 lo)).take (HT.sIx xs.length xs.length hi - HT.sIx xs.length 0 lo), Heap.get?_push_size _ rfl⟩
def flatV : V -> Bool
  | .non => true
  | .bl _ => true
  | .int _ => true
  | .str _ => true
  | _ => false
def eqV : V -> V -> Bool
  | .non, .non => true
  | .bl a, .bl b => a == b
  | .bl a, .int b => (if a then 1 else 0) == b
  | .int a, .bl b => a == (if b then 1 else 0)
  | .int a, .int b => a == b
  | .str a, .str b => a == b
  | _, _ => false
theorem eqAt_V {A : Around} {s : Shared} {y x : V} {u v : Value} (ry : RelV y u) (rx : RelV x v) (fy : flatV y = true) (fx : flatV x = true) : SeqAt.EqAt A s u v (eqV y x) := by
  cases y with
  | non =>
    cases ry;cases x with
    | non => cases rx; exact SeqAt.EqAt.same _
    | bl b => cases rx; exact SeqAt.EqAt.none_bool b
    | int b => obtain ⟨t, rfl⟩ := rx; exact SeqAt.EqAt.none_int b t
    | str b => obtain ⟨t, rfl⟩ := rx; exact SeqAt.EqAt.none_str b t
    | _ => exact absurd (show false = true from fx) Bool.false_ne_true
  | bl a =>
    cases ry;cases x with
    | non => cases rx; exact SeqAt.EqAt.bool_none a
    | bl b => cases rx; exact SeqAt.EqAt.bool_bool a b
    | int b => obtain ⟨t, rfl⟩ := rx; exact SeqAt.EqAt.bool_int a b t
    | str b => obtain ⟨t, rfl⟩ := rx; exact SeqAt.EqAt.bool_str a b t
    | _ => exact absurd (show false = true from fx) Bool.false_ne_true
  | int a =>
    obtain ⟨t', rfl⟩ := ry;cases x with
    | non => cases rx; exact SeqAt.EqAt.int_none a t'
    | bl b => cases rx; exact SeqAt.EqAt.int_bool a t' b
    | int b => obtain ⟨t, rfl⟩ := rx; exact SeqAt.EqAt.int_int a t' b t
    | str b => obtain ⟨t, rfl⟩ := rx; exact SeqAt.EqAt.int_str a t' b t
    | _ => exact absurd (show false = true from fx) Bool.false_ne_true
  | str a =>
    obtain ⟨t', rfl⟩ := ry;cases x with
    | non => cases rx; exact SeqAt.EqAt.str_none a t'
    | bl b => cases rx; exact SeqAt.EqAt.str_bool a t' b
    | int b => obtain ⟨t, rfl⟩ := rx; exact SeqAt.EqAt.str_int a t' b t
    | str b => obtain ⟨t, rfl⟩ := rx; exact SeqAt.EqAt.str_str a t' b t
    | _ => exact absurd (show false = true from fx) Bool.false_ne_true
  | _ => exact absurd (show false = true from fy) Bool.false_ne_true
def eqU (x : V) (u : Value) : Bool := match u with
  | .none => eqV .non x
  | .bool b => eqV (.bl b) x
  | .int i _ => eqV (.int i) x
  | .str z _ => eqV (.str z) x
  | _ => false
theorem eqU_of {x y : V} {u : Value} (r : RelV y u) (f : flatV y = true) : eqU x u = eqV y x := by
  cases y with
  | non => cases r; rfl
  | bl b => cases r; rfl
  | int i => obtain ⟨t, rfl⟩ := r; rfl
  | str z => obtain ⟨t, rfl⟩ := r; rfl
  | _ => exact absurd (show false = true from f) Bool.false_ne_true
theorem any_eqU {x : V} : ∀ {xs : List V} {us : List Value}, Vals xs us -> xs.all flatV = true -> us.any (eqU x) = xs.any fun y => eqV y x
  | _, _, .nil, _ => rfl
  | y :: xs, u :: us, .cons r t, f => by
    rw [List.all_cons, Bool.and_eq_true] at f;rw [List.any_cons, List.any_cons, eqU_of r f.1, any_eqU t f.2]
theorem mem_eqAt {A : Around} {s : Shared} {x : V} {v : Value} (rx : RelV x v) (fx : flatV x = true) : ∀ {xs : List V} {us : List Value}, Vals xs us -> xs.all flatV = true -> ∀ u ∈ us, SeqAt.EqAt A s u v (eqU x u)
  | _, _, .nil, _ => fun u hu => by cases hu
  | y :: xs, u :: us, .cons r t, f => fun u' hu => by
    rw [List.all_cons, Bool.and_eq_true] at f;rcases List.mem_cons.mp hu with rfl | hu
    · rw [eqU_of r f.1]; exact eqAt_V r rx f.1 fx
    · exact mem_eqAt rx fx t f.2 u' hu
def inV (x : V) (xs : List V) : Bool := xs.any fun y => eqV y x
def rIn (K : PySem.W.Frag) (neg : Bool) : R2 := fun x y H Q => ∃ p xs, y = .ref p /\ (SqL K H p xs \/ SqT K H p xs) /\ flatV x = true /\ xs.all flatV = true /\ Q (.bl (if neg then !inV x xs else inV x xs)) H
theorem op_in_seq : OpR X (compareOp .In) (rIn X.K false) := by
  intro pins s σ H x y v u Q I rx ry h;obtain ⟨p, xs, rfl, hq, fx, fs, q⟩ := h;cases ry;rcases hq with hq | hq
  · obtain ⟨its, r, pl, hz⟩ := I.list hq;refine SeqAt.in_listAt (eqU x) pl.isList (fun w hw => mem_eqAt rx fx r fs w (by simpa using hw)) ⟨.bl _, H, I, rfl, ?_⟩;rw [show its.toArray.any (eqU x) = its.any (eqU x) by simp, any_eqU r fs];exact q
  · obtain ⟨its, r, pl, hz⟩ := I.tuple hq;refine SeqAt.in_tupleAt (eqU x) pl (fun w hw => mem_eqAt rx fx r fs w (by simpa using hw)) ⟨.bl _, H, I, rfl, ?_⟩;rw [show its.toArray.any (eqU x) = its.any (eqU x) by simp, any_eqU r fs];exact q
theorem call_len_seq : CallR X (.builtin "len") (fun xs H Q => ∃ p ys, xs = [.ref p] /\ (SqL X.K H p ys \/ SqT X.K H p ys) /\ Q (.int ys.length) H) := by
  intro pins s σ H xs us Q I r h;obtain ⟨p, ys, rfl, hq, q⟩ := h;obtain ⟨u, rfl, rx⟩ := vals1 r;cases rx;have hn := line63;rcases hq with hq | hq
  · obtain ⟨its, r', pl, hz⟩ := I.list hq;have hlen := r'.length;exact Calls.call_len_list pl.isList (by simp only [List.size_toArray] <;> omega) ⟨.int ys.length, H, I.tok _, ⟨s.toks + 1, by rw [List.size_toArray, hlen]⟩, q⟩
  · obtain ⟨its, r', pl, hz⟩ := I.tuple hq;have hlen := r'.length;exact len_tuple pl (by simp only [List.size_toArray] <;> omega) ⟨.int ys.length, H, I.tok _, ⟨s.toks + 1, by rw [List.size_toArray, hlen]⟩, q⟩
theorem call_list_of : CallR X (.type "list") (fun xs H Q => ∃ p ys, xs = [.ref p] /\ (SqL X.K H p ys \/ SqT X.K H p ys) /\ ∀ l, H l = none -> Q (.ref l) (upd H l (.lst ys))) := by
  intro pins s σ H xs us Q I r h;obtain ⟨p, ys, rfl, hq, q⟩ := h;obtain ⟨u, rfl, rx⟩ := vals1 r;cases rx
  have fin : ∀ (its : List Value), Vals ys its -> ys.length <= sizeLine -> ∀ (h' : Heap) (c' : Nat), (∀ b o', s.heap.get? b = some o' -> h'.get? b = some o') ->
      h'.get? s.heap.objs.size = some { cls := .type "list", dict := none, data := .seq its.toArray c', slots := #[] } -> EP X pins σ Q (.ref s.heap.objs.size) { s with heap := h' } := fun its r' hz h' c' kp e =>
    ⟨.ref s.heap.objs.size, _, I.laid (t' := s.toks) kp (Nat.le_refl _) (show Q7 X.prog X.w _ h' _ (.lst ys) from ⟨hz, its, c', r', e⟩), rfl, q _ (I.hok.fresh (Nat.le_refl _))⟩
  rcases hq with hq | hq
  · obtain ⟨its, r', pl, hz⟩ := I.list hq;have hlen := r'.length;obtain ⟨o, ho, hc, n, hd⟩ := pl.isList;exact call_list_seq p (.inl rfl) ho hc hd (fun h' c' kp e => fin its r' hz h' c' kp e) (by simp only [List.size_toArray] <;> omega)
  · obtain ⟨its, r', pl, hz⟩ := I.tuple hq;have hlen := r'.length;obtain ⟨o, ho, hc, n, hd⟩ := pl;exact call_list_seq p (.inr rfl) ho hc hd (fun h' c' kp e => fin its r' hz h' c' kp e) (by simp only [List.size_toArray] <;> omega)
theorem call_tuple_of : CallR X (.type "tuple") (fun xs H Q => ∃ p ys, xs = [.ref p] /\ ((SqL X.K H p ys /\ ∀ l, H l = none -> Q (.ref l) (upd H l (.tup ys))) \/ (SqT X.K H p ys /\ Q (.ref p) H))) := by
  intro pins s σ H xs us Q I r h;obtain ⟨p, ys, rfl, h⟩ := h;obtain ⟨u, rfl, rx⟩ := vals1 r;cases rx;rcases h with ⟨hq, q⟩ | ⟨hq, q⟩
  · obtain ⟨its, r', pl, hz⟩ := I.list hq;have hlen := r'.length;refine call_tuple_list pl.isList (fun h' kp => ?_) (by simp only [List.size_toArray] <;> omega);have I1 : Inv X pins σ H { s with heap := h' } := I.kept (t' := s.toks) kp
    have I2 : Inv X pins σ (upd H h'.objs.size (.tup ys)) { s with heap := h'.push { cls := .type "tuple", data := .seq its.toArray } } :=
      I1.laid (t' := s.toks) (fun b o e => Heap.get?_push_of_some _ e) (Nat.le_refl _) (show Q7 X.prog X.w _ _ _ (.tup ys) from ⟨hz, its, r', IsTup.new _ _⟩)
    exact ⟨.ref h'.objs.size, _, I2, rfl, q _ (I1.hok.fresh (Nat.le_refl _))⟩
  · obtain ⟨its, r', pl, hz⟩ := I.tuple hq;exact call_tuple_same pl ⟨.ref p, H, I, rfl, q⟩
def tyV (K : PySem.W.Frag) (T : String) (x : V) (H : Hp) : Prop := match x with
  | .str _ => T = "str"
  | .int _ => T = "int"
  | .ref p => (T = "list" /\ ∃ xs, SqL K H p xs) \/ (T = "tuple" /\ ∃ o, K.lookup p = some o /\ o.cls = .type "tuple" /\ o.dict = none) \/
      (T = "dict" /\ ((∃ kvs, H p = some (.dK kvs)) \/ ∃ kvs, H p = some (.dT kvs))) \/ (T = "set" /\ ∃ S n, H p = some (.set S n))
  | _ => False
theorem tyV_is {pins : List (Addr × Obj)} {σ : St} {H : Hp} {s : Shared} {T : String} {x : V} {v : Value} (I : Inv X pins σ H s) (r : RelV x v) (ty : tyV X.K T x H) :
    s.TypeIs v T /\ ∀ a, v = .ref a -> ∃ ob, s.heap.get? a = some ob /\ ob.dict = none := by
  cases x with
  | str z =>
    obtain ⟨t, rfl⟩ := r;cases (show T = "str" from ty);exact ⟨typeIs_str s z t, fun _ e => nomatch e⟩
  | int i =>
    obtain ⟨t, rfl⟩ := r;cases (show T = "int" from ty);exact ⟨typeIs_int s i t, fun _ e => nomatch e⟩
  | ref p =>
    cases r;rcases ty with ⟨rfl, xs, hq⟩ | ⟨rfl, o, hk, hc, hd⟩ | ⟨rfl, hk⟩ | ⟨rfl, S, n, hk⟩
    · obtain ⟨its, _, pl, _⟩ := I.list hq;refine ⟨pl.isList.typeIs, fun a e => ?_⟩;cases e;obtain ⟨o, n, e, c, hd, _⟩ := pl;exact ⟨o, e, hd⟩
    · refine ⟨⟨o, I.kIn p o hk, hc⟩, fun a e => ?_⟩;cases e;exact ⟨o, I.kIn _ o hk, hd⟩
    · have z : ∃ o, s.heap.get? p = some o /\ o.ExactDict := by
        rcases hk with ⟨kvs, hk⟩ | ⟨kvs, hk⟩
        · obtain ⟨_, _, _, _, o, _, _, e, ex, _⟩ := I.hok p _ hk;exact ⟨o, e, ex⟩
        · obtain ⟨_, _, _, _, o, _, _, e, ex, _⟩ := I.hok p _ hk;exact ⟨o, e, ex⟩
      obtain ⟨o, e, ex⟩ := z;refine ⟨⟨o, e, ex.1⟩, fun a e2 => ?_⟩;cases e2;exact ⟨o, e, ex.2.1⟩
    · obtain ⟨o, _, _, _, e, ex, _⟩ := I.hok p _ hk;refine ⟨⟨o, e, ex.1⟩, fun a e2 => ?_⟩;cases e2;exact ⟨o, e, ex.2.1⟩
  | _ => exact False.elim ty
def tBM (K : PySem.W.Frag) (T : String) (r : V -> List V -> Hp -> VK -> Prop) (to : TE) (t : TA) : TE := fun σ H Q => to σ H fun x H1 => tyV K T x H1 /\ t σ H1 fun xs H2 => r x xs H2 Q
variable {o e : Expr} {es : List Expr} {to : TE} {t : TA} {name : Str} {apos cpos : Pos} {T id : String} {r : V -> List V -> Hp -> VK -> Prop}
theorem pe_bm (pa : PlainAttrs T) (slot : Slot T name id) (hty : typeOf (.builtin id) = pure (.type "method_descriptor")) (hm : MtR X id r) (ho : PE X o to) (ha : PA X (e :: es) t)
    (hbase : attributeBase o name X.env (eval o X.env) = eval o X.env := by rfl)
    (hfew : ((backTo cpos (starEach (e :: es) X.env)).all (fun x => !x.1) && (backToKw cpos (keywordEach [] X.env)).all (fun x => x.1.isSome)
      && decide ((e :: es).length + ([] : List Keyword).length + (if ([] : List Keyword).isEmpty then 0 else 1) < 30)) = true := by rfl)
    (hline : (apos.endLine == cpos.line) = true := by rfl) (hs : starEach (e :: es) X.env = (false, eval e X.env) :: starEach es X.env := by rfl) (hplain : (backTo cpos (starEach es X.env)).any (·.1) = false := by rfl) :
    PE X (.Call (.Attribute o name apos) (e :: es) [] cpos) (tBM X.K T r to t) := by
  intro pins s σ H Q I h;refine wpAny_Call_method_late hbase hfew hline rfl (thn (ho pins s σ H _ I h) fun v s1 ⟨x, H1, I1, r1, ty, q1⟩ => ?_);obtain ⟨h1, h2⟩ := tyV_is I1 r1 ty;refine ⟨T, id, pa, slot, hty, h1, h2, ?_⟩;have hA := ha cpos pins s1 σ H1 _ I1 q1;rw [hs] at hA ⊢;refine Calls.callWith_builtin (by show (false || (backTo cpos (starEach es X.env)).any (·.1)) = false; rw [hplain] <;> rfl) (Calls.evalArgs_plain ?_);exact thn hA fun us s2 ⟨vs, H2, I2, r2, q2⟩ => hm pins s2 σ H2 x vs v us Q I2 r1 r2 q2
end
end L2
namespace L2
open PySem PySem.Spec PyProof.Rows
def MtM (X : Cx) (id : String) (r : V -> List V -> Hp -> VK -> Prop) : Prop :=
  ∀ (pins : List (Addr × Obj)) (s : Shared) (σ : St) (H : Hp) (x : V) (xs : List V) (v : Value) (us : List Value) (Q : VK), Inv X pins σ H s -> RelV x v -> Vals xs us -> r x xs H Q ->
    wpAny (model X.prog X.w) X.A (call (.builtin id) (v :: us)) (EP X pins σ Q) X.xe s
theorem Vals.one : ∀ {x : V} {us : List Value}, Vals [x] us -> ∃ u, us = [u] /\ RelV x u
  | _, _, .cons r .nil => ⟨_, rfl, r⟩
theorem Vals.rep {xs : List V} {us : List Value} (h : Vals xs us) : ∀ k : Nat, Vals (List.replicate k xs).flatten (List.replicate k us).flatten
  | 0 => .nil
  | k + 1 => by
    rw [List.replicate_succ, List.replicate_succ, List.flatten_cons, List.flatten_cons];exact Vals.append h (Vals.rep h k)
theorem foldl_rep (its : List Value) : ∀ (k : Nat) (acc : List Value),
    List.foldl (fun x1 x2 => x1 ++ x2) acc.toArray (List.replicate k its.toArray) = (acc ++ (List.replicate k its).flatten).toArray
  | 0, acc => by simp
  | k + 1, acc => by
    have e : acc.toArray ++ its.toArray = (acc ++ its).toArray := by simp
    have e2 : (acc ++ its) ++ (List.replicate k its).flatten = acc ++ (List.replicate (k + 1) its).flatten := by
      rw [List.replicate_succ, List.flatten_cons, List.append_assoc]
    rw [<- e2, <- foldl_rep its k (acc ++ its), <- e, List.replicate_succ, List.foldl_cons]
section
variable {X : Cx} {pins : List (Addr × Obj)} {σ : St} {H : Hp} {s : Shared} {l b : Addr} {xs ys zs : List V}
theorem Inv.lset {its its' : List Value} {n : Nat} {f : Array Value -> Array Value} {t' : Nat} (I : Inv X pins σ H s) (hH : H l = some (.lst xs))
    (e : s.heap.get? l = some { cls := .type "list", data := .seq its.toArray n }) (hf : f its.toArray = its'.toArray) (hv : Vals ys its') (hz : ys.length <= sizeLine) :
    Inv X pins σ (upd H l (.lst ys)) { s with heap := s.heap.update l (Obj.mapSeq f), toks := t' } := by
  have q := PySem.IsL.update e f;rw [hf] at q;refine I.write (x := l) (e := l) (by rw [hH]; exact trivial) (.inl rfl) (fun b' u hb hu => (Heap.get?_update_other s.heap (Obj.mapSeq f) (Ne.symm hb)).trans hu) ⟨_, q⟩ ?_;exact ⟨hz, its', _, hv, q⟩
theorem Inv.lnew {its : List Value} {t' : Nat} (I : Inv X pins σ H s) (hv : Vals ys its) (hz : ys.length <= sizeLine) :
    Inv X pins σ (upd H s.heap.objs.size (.lst ys)) { s with heap := s.heap.push { cls := .type "list", data := .seq its.toArray }, toks := t' } :=
  I.laid (fun _ _ q => Heap.get?_push_of_some _ q) (Nat.le_refl _) ⟨hz, its, 0, hv, Heap.get?_push_size _ rfl⟩
theorem Inv.fresh (I : Inv X pins σ H s) : H s.heap.objs.size = none := I.hok.fresh (Nat.le_refl _)
theorem Inv.lstM (I : Inv X pins σ H s) (hH : H l = some (.lst xs)) : xs.length <= sizeLine /\ ∃ (its : List Value) (n : Nat), Vals xs its /\ xs.length = its.length /\ s.heap.get? l = some { cls := .type "list", data := .seq its.toArray n } := by
  obtain ⟨z, its, n, r, e⟩ := I.hok l _ hH;exact ⟨z, its, n, r, r.length, e⟩
theorem notLongL {n : Nat} (h : n <= sizeLine) : Builtin.List.listTooLong n = false := by
  unfold Builtin.List.listTooLong;exact decide_eq_false (by omega)
end
section
variable {X : Cx}
def rAppend : V -> List V -> Hp -> VK -> Prop := fun x vs H Q => ∃ l xs y, x = .ref l /\ vs = [y] /\ H l = some (.lst xs) /\ xs.length < sizeLine /\ Q .non (upd H l (.lst (xs ++ [y])))
theorem mt_append : MtM X "list.append" rAppend := by
  intro pins s σ H x vs v us Q I rx rv h;obtain ⟨l, xs, y, rfl, rfl, hH, hz, q⟩ := h;cases rx;obtain ⟨u, rfl, ru⟩ := rv.one;obtain ⟨z, its, n, r, hl, e⟩ := I.lstM hH;refine call_meets F.slot_list_append ⟨_, e, rfl⟩ F.entry_list_append (F.args_list_append_2 _ _) (PySem.list_append l its.toArray n u (by rw [List.size_toArray]; omega)) ⟨e, ?_⟩;refine ⟨.non, _, I.lset (its' := its ++ [u]) hH e (by simp) (r.append (.cons ru .nil)) ?_, rfl, q⟩;rw [List.length_append, List.length_singleton];omega
def rExtend : V -> List V -> Hp -> VK -> Prop := fun x vs H Q => ∃ l b xs zs, x = .ref l /\ vs = [.ref b] /\ H l = some (.lst xs) /\ H b = some (.lst zs) /\ xs.length + zs.length <= sizeLine /\ Q .non (upd H l (.lst (xs ++ zs)))
theorem mt_extend : MtM X "list.extend" rExtend := by
  intro pins s σ H x vs v us Q I rx rv h;obtain ⟨l, b, xs, zs, rfl, rfl, hH, hB, hz, q⟩ := h;cases rx;obtain ⟨u, rfl, ru⟩ := rv.one;cases ru;obtain ⟨z, its, n, r, hl, e⟩ := I.lstM hH;obtain ⟨z2, its2, n2, r2, hl2, e2⟩ := I.lstM hB;have hsz : its.toArray.size + its2.toArray.size <= sizeLine := by rw [List.size_toArray, List.size_toArray]; omega
  have hlong : ¬ (!its.toArray.isEmpty && Builtin.List.listTooLong (its.toArray.size + its2.toArray.size)) = true := by
    rw [notLongL hsz, Bool.and_false];exact Bool.false_ne_true
  refine call_meets F.slot_list_extend ⟨_, e, rfl⟩ F.entry_list_extend (F.args_list_extend_2 _ _)
    (AutoSeq1.list_extend_list_list_0 l its.toArray n b its2.toArray n2 hlong (by rw [List.size_toArray]; omega) (by omega)) ⟨e, e2, ?_⟩
  refine ⟨.non, _, I.lset (its' := its ++ its2) hH e (by simp) (r.append r2) ?_, rfl, q⟩;rw [List.length_append];omega
def rRep : R2 := fun x y H Q => ∃ l k xs, x = .ref l /\ y = .int k /\ H l = some (.lst xs) /\ -(2 ^ 63) <= k /\ k < 2 ^ 63 /\ xs.length * k.toNat <= sizeLine /\
  ∀ p, H p = none -> Q (.ref p) (upd H p (.lst (List.replicate k.toNat xs).flatten))
theorem len_rep {α : Type} (xs : List α) (k : Nat) : (List.replicate k xs).flatten.length = k * xs.length := by
  induction k with
  | zero => simp
  | succ k ih => rw [List.replicate_succ, List.flatten_cons, List.length_append, ih, Nat.succ_mul, Nat.add_comm]
theorem op_rep : OpR X (binaryOp .Mult) rRep := by
  intro pins s σ H x y v u Q I rx ry h;obtain ⟨l, k, xs, rfl, rfl, hH, h1, h2, hz, q⟩ := h;cases rx;obtain ⟨t, rfl⟩ := ry;obtain ⟨z, its, n, r, hl, e⟩ := I.lstM hH;have hlen : its.toArray.size * k.toNat <= sizeLine := by rw [List.size_toArray, <- hl]; exact hz
  have hcap : ¬ its.toArray.size * k.toNat > (2 ^ 63 - 1) / 8 := by
    have : (sizeLine : Nat) <= (2 ^ 63 - 1) / 8 := by decide
    omega
  have hfit : ¬ (!Builtin.List.listFitsIndex k) = true := by
    rw [fitsIndex_both h1 h2];exact Bool.false_ne_true
  have hlong : ¬ Builtin.List.listTooLong (its.toArray.size * k.toNat) = true := by
    rw [notLongL hlen];exact Bool.false_ne_true
  have hnew : List.foldl (fun x1 x2 => x1 ++ x2) #[] (List.replicate (if its.toArray.isEmpty = true then 0 else k.toNat) its.toArray) = (List.replicate k.toNat its).flatten.toArray := by
    have f0 : ∀ m : Nat, List.foldl (fun x1 x2 => x1 ++ x2) #[] (List.replicate m its.toArray) = (List.replicate m its).flatten.toArray := fun m => by
      have := foldl_rep its m [];rw [List.nil_append] at this;exact this
    rw [f0];cases its with
    | nil => simp
    | cons a r' => rw [if_neg (by simp)]
  refine wpAny_binaryOp_repeat_ref (T := "list") (U := "int") (by decide) ⟨_, e, rfl⟩ (fun s' => typeIs_int s' k t) noFill_list_mul F.fills_int_mul F.slot_int_rmul repeat_list F.slot_int_index.lookup
    (call_meets F.slot_int_rmul (typeIs_int s k t) F.entry_int_rmul (F.args_int_rmul_2 _ _) (int___rmul___int_list k t l its.toArray n)
      ⟨e, rfl, ⟨_, e, rfl⟩, call_meets F.slot_list_mul ⟨_, e, rfl⟩ F.entry_list_mul (F.args_list_mul_2 _ _) (AutoListH.list___mul___list_int_3 l its.toArray n k t hfit hcap hlong) ⟨e, ?_⟩⟩)
  rw [hnew];exact ⟨.ref _, _, I.lnew (t' := s.toks) (r.rep k.toNat) (by rw [len_rep, Nat.mul_comm]; exact hz), rfl, q _ I.fresh⟩
end
section
variable {prog : Program} {w : World} {A : Around} {E : Value -> Shared -> Prop} {s : Shared}
set_option maxRecDepth 100000 in
end
section
variable {X : Cx}
end
end L2
namespace L2
open PySem PySem.Spec PyProof.Rows
theorem Vals.ints : ∀ {ns : List Int} {us : List Value}, Vals (ns.map V.int) us -> IntsAre us ns
  | [], us, h => by
    rw [List.map_nil] at h;cases h;exact IntsAre.nil
  | n :: ns, us, h => by
    rw [List.map_cons] at h;cases h with
    | cons r t =>
      obtain ⟨k, rfl⟩ := r;exact IntsAre.cons n k (Vals.ints t)
theorem Vals.bls : ∀ {bs : List Bool} {us : List Value}, Vals (bs.map V.bl) us -> us = bs.map Value.bool
  | [], us, h => by
    rw [List.map_nil] at h;cases h;rfl
  | b :: bs, us, h => by
    rw [List.map_cons] at h;cases h with
    | cons r t =>
      cases r;rw [Vals.bls t, List.map_cons]
theorem Vals.ref1 {a : Addr} {us : List Value} (r : Vals [V.ref a] us) : us = [Value.ref a] := by
  cases r with
  | cons r t =>
    cases t;cases r;rfl
section
variable {prog : Program} {w : World} {A : Around} {E : Value -> Shared -> Prop} {s : Shared} {l : Addr} {its : List Value} {ns : List Int} {Q : Value -> Shared -> Prop}
end
section
variable {X : Cx}
end
section
variable {X : Cx}
end
section
variable {X : Cx}
end
theorem iter_any {prog : Program} {w : World} {A : Around} {E : Value -> Shared -> Prop} {s : Shared} {l : Addr} {items : Array Value} {Q : Value -> Shared -> Prop} (hl : s.heap.IsList l items)
    (h : ∀ s₂ : Shared, s₂ = { s with heap := s.heap.push { cls := .type "list_iterator", data := .fields #[.ref l, .int 0 0] } } ->
      (s₂.heap.IsListIter s.heap.objs.size l 0 /\ s₂.heap.IsList l items) -> l ≠ s.heap.objs.size -> Q (.ref s.heap.objs.size) s₂) : wpAny (model prog w) A (pyIter (.ref l)) Q E s := by
  have hlt : l < s.heap.objs.size := by obtain ⟨_, e, _⟩ := hl; exact Heap.lt_size e
  exact wpAny_pyIter_list hl (h _ rfl ⟨⟨_, Heap.get?_push_size _ rfl, rfl, rfl⟩, hl.push _⟩ (Nat.ne_of_lt hlt))
theorem truth_bools {prog : Program} {w : World} {A : Around} {bs : List Bool} {its : List Value} (e : its = bs.map Value.bool) :
    TruthOf prog w A (fun i v => its.toArray[i]? = some v) (fun i => bs.getD i false) := fun i v s Q E hv hq => by
  have hv' : its[i]? = some v := by simpa using hv
  rw [e, List.getElem?_map] at hv';obtain ⟨b, hb, rfl⟩ := Option.map_eq_some_iff.mp hv';have hg : bs.getD i false = b := by rw [List.getD_eq_getElem?_getD, hb] <;> rfl
  have hq' : Q (bs.getD i false) s := hq;rw [hg] at hq';exact wpAny_truthy_bool hq'
theorem any_range : ∀ bs : List Bool, (List.range bs.length).any (fun i => bs.getD i false) = bs.any id
  | [] => rfl
  | b :: bs => by
    rw [List.length_cons, List.range_succ_eq_map, List.any_cons, List.any_map, List.any_cons, <- any_range bs]
    all_goals rfl
theorem all_range : ∀ bs : List Bool, (List.range bs.length).all (fun i => bs.getD i false) = bs.all id
  | [] => rfl
  | b :: bs => by
    rw [List.length_cons, List.range_succ_eq_map, List.all_cons, List.all_map, List.all_cons, <- all_range bs]
    all_goals rfl
section
variable {X : Cx}
def rAny (K : PySem.W.Frag) : List V -> Hp -> VK -> Prop := fun vs H Q => ∃ (a : Addr) (bs : List Bool), vs = [V.ref a] /\ SqL K H a (bs.map V.bl) /\ Q (.bl (bs.any id)) H
def rAll (K : PySem.W.Frag) : List V -> Hp -> VK -> Prop := fun vs H Q => ∃ (a : Addr) (bs : List Bool), vs = [V.ref a] /\ SqL K H a (bs.map V.bl) /\ Q (.bl (bs.all id)) H
theorem cr_any (hc : X.calm = true) : CallR X (.builtin "any") (rAny X.K) := by
  intro pins s σ H vs us Q I r h;obtain ⟨a, bs, rfl, hs, q⟩ := h;obtain ⟨its, rv, hl, _⟩ := I.list hs;rw [Vals.ref1 r];have hb := rv.bls;refine call_any_walk (iter_any hl.isList fun s₂ e2 st hne => ?_);subst e2;refine ⟨_, _, _, _, _, _, _, rfl, Walks.list (A := X.A.in1) (I.ok.hd hc) _ a hne its.toArray, st, truth_bools hb, fun h' tk hk => ?_⟩;refine ⟨.bl _, H, I.kept fun b o eo => hk b o (fun hmem => ?_) (Heap.get?_push_of_some _ eo), ?_, q⟩
  · rcases List.mem_cons.mp hmem with e1 | hmem
    · exact absurd (e1 ▸ Heap.lt_size eo) (Nat.lt_irrefl _)
    · cases hmem
  · show Value.bool _ = Value.bool _;rw [<- any_range, hb, List.size_toArray, List.length_map]
theorem cr_all (hc : X.calm = true) : CallR X (.builtin "all") (rAll X.K) := by
  intro pins s σ H vs us Q I r h;obtain ⟨a, bs, rfl, hs, q⟩ := h;obtain ⟨its, rv, hl, _⟩ := I.list hs;rw [Vals.ref1 r];have hb := rv.bls;refine call_all_walk (iter_any hl.isList fun s₂ e2 st hne => ?_);subst e2;refine ⟨_, _, _, _, _, _, _, rfl, Walks.list (A := X.A.in1) (I.ok.hd hc) _ a hne its.toArray, st, truth_bools hb, fun h' tk hk => ?_⟩;refine ⟨.bl _, H, I.kept fun b o eo => hk b o (fun hmem => ?_) (Heap.get?_push_of_some _ eo), ?_, q⟩
  · rcases List.mem_cons.mp hmem with e1 | hmem
    · exact absurd (e1 ▸ Heap.lt_size eo) (Nat.lt_irrefl _)
    · cases hmem
  · show Value.bool _ = Value.bool _;rw [<- all_range, hb, List.size_toArray, List.length_map]
end
mutual
inductive Dp (K : PySem.W.Frag) (H : Hp) : V -> PyData -> Prop
  | non : Dp K H .non .none
  | bl (b : Bool) : Dp K H (.bl b) (.bool b)
  | int (i : Int) : Dp K H (.int i) (.int i)
  | str (x : Str) : Dp K H (.str x) (.str x)
  | lst {a : Addr} {xs : List V} {ds : List PyData} : SqL K H a xs -> DpAll K H xs ds -> Dp K H (.ref a) (.list ds)
  | tup {a : Addr} {xs : List V} {ds : List PyData} : SqT K H a xs -> DpAll K H xs ds -> Dp K H (.ref a) (.tuple ds)
inductive DpAll (K : PySem.W.Frag) (H : Hp) : List V -> List PyData -> Prop
  | nil : DpAll K H [] []
  | cons {v : V} {vs : List V} {d : PyData} {ds : List PyData} : Dp K H v d -> DpAll K H vs ds -> DpAll K H (v :: vs) (d :: ds)
end
section
variable {X : Cx} {pins : List (Addr × Obj)} {σ : St} {H : Hp} {s : Shared}
mutual
theorem Dp.reads (I : Inv X pins σ H s) : ∀ (d : PyData) (v : V) (u : Value), Dp X.K H v d -> RelV v u -> ∃ as, Reads s.heap u d as
  | .none, _, _, h, r => by
    cases h;cases r;exact ⟨_, Reads.none⟩
  | .bool b, _, _, h, r => by
    cases h;cases r;exact ⟨_, Reads.bool b⟩
  | .int i, _, _, h, r => by
    cases h;obtain ⟨t, rfl⟩ := r;exact ⟨_, Reads.int i t⟩
  | .str x, _, _, h, r => by
    cases h;obtain ⟨t, rfl⟩ := r;exact ⟨_, Reads.str x t⟩
  | .list ds, _, _, h, r => by
    cases h with
    | lst hs ha =>
      cases r;obtain ⟨its, rv, ⟨o, n, ho, hc, _, hd⟩, _⟩ := I.list hs;obtain ⟨as, hr⟩ := Dp.readsAll I ds _ its ha rv;exact ⟨_, Reads.list ho hc hd hr⟩
  | .tuple ds, _, _, h, r => by
    cases h with
    | tup hs ha =>
      cases r;obtain ⟨its, rv, ⟨o, ho, hc, n, hd⟩, _⟩ := I.tuple hs;obtain ⟨as, hr⟩ := Dp.readsAll I ds _ its ha rv;exact ⟨_, Reads.tuple ho hc hd hr⟩
  | .dict _, _, _, h, _ => by cases h
theorem Dp.readsAll (I : Inv X pins σ H s) : ∀ (ds : List PyData) (vs : List V) (us : List Value), DpAll X.K H vs ds -> Vals vs us -> ∃ as, ReadsAll s.heap us ds as
  | [], _, _, h, r => by
    cases h;cases r;exact ⟨_, ReadsAll.nil⟩
  | d :: ds, _, _, h, r => by
    cases h with
    | cons h1 h2 =>
      cases r with
      | cons r1 r2 =>
        obtain ⟨as, q1⟩ := Dp.reads I d _ _ h1 r1;obtain ⟨bs, q2⟩ := Dp.readsAll I ds _ _ h2 r2;exact ⟨_, ReadsAll.cons q1 q2⟩
end
end
section
variable {X : Cx}
def rEqD (K : PySem.W.Frag) : R2 := fun x y H Q => ∃ d e, Dp K H x d /\ Dp K H y e /\ SeqAt.shaped d = true /\ SeqAt.shaped e = true /\ Q (.bl (PyData.eqv d e)) H
def rNeD (K : PySem.W.Frag) : R2 := fun x y H Q => ∃ d e, Dp K H x d /\ Dp K H y e /\ SeqAt.shaped d = true /\ SeqAt.shaped e = true /\ Q (.bl (!PyData.eqv d e)) H
theorem op_eqD (hu : X.A.units + 64 < cLine) : OpR X (compareOp .Eq) (rEqD X.K) := by
  intro pins s σ H x y v u Q I rx ry h;obtain ⟨d, e, hd, he, sd, se, q⟩ := h;obtain ⟨as, r1⟩ := Dp.reads I d x v hd rx;obtain ⟨bs, r2⟩ := Dp.reads I e y u he ry;exact SeqAt.compareEq_shaped r1 r2 sd se hu ⟨.bl _, H, I, rfl, q⟩
theorem op_neD (hu : X.A.units + 64 < cLine) : OpR X (compareOp .NotEq) (rNeD X.K) := by
  intro pins s σ H x y v u Q I rx ry h;obtain ⟨d, e, hd, he, sd, se, q⟩ := h;obtain ⟨as, r1⟩ := Dp.reads I d x v hd rx;obtain ⟨bs, r2⟩ := Dp.reads I e y u he ry;exact SeqAt.compareNe_shaped r1 r2 sd se hu ⟨.bl _, H, I, rfl, q⟩
end
end L2
namespace L2
open PySem PySem.Spec PyProof.Rows
abbrev CellAt (h : Heap) (c : Addr) (v : Option Value) : Prop := h.IsCell c v
def relS (scope sc : Scope) : Scope :=
  { scope with names := scope.names.map fun (n, k) => if (k == .free && sc.kind == .function && sc.names.lookup n == some .cell) then (n, .cell) else (n, k) }
def x9 (cells : List (Str × Addr)) : List (Str × NameKind) -> List (Str × Addr) -> List (Str × Addr)
  | [], acc => acc
  | (n, k) :: r, acc => if k == .free then x9 cells r ((n, (cells.lookup n).getD 0) :: acc) else x9 cells r acc
theorem closure_loop (env : Env) (f : Str × NameKind -> List (Str × Addr) -> Sem (ForInStep (List (Str × Addr))))
    (hf : ∀ n k c, f (n, k) c = if k == .free then (do let a <- cellOf env n; pure (.yield ((n, a) :: c))) else pure (.yield c)) :
    ∀ (names : List (Str × NameKind)) (acc : List (Str × Addr)), (∀ y ∈ names, y.2 = .free -> ∃ c, env.cells.lookup y.1 = some c) -> forIn names acc f = pure (x9 env.cells names acc)
  | [], acc, _ => by rw [List.forIn_nil]; rfl
  | (n, k) :: r, acc, h => by
    rw [List.forIn_cons, hf];have ih := fun acc => closure_loop env f hf r acc fun y hy => h y (List.mem_cons_of_mem _ hy)
    unfold x9;by_cases hk : (k == NameKind.free) = true
    · rw [if_pos hk, if_pos hk];obtain ⟨c, hc⟩ := h (n, k) List.mem_cons_self (by simpa using hk);have e : cellOf env n = pure c := by unfold cellOf; rw [hc]
      rw [e];have e2 : (env.cells.lookup n).getD 0 = c := by rw [hc]; rfl
      rw [e2];exact ih _
    · rw [if_neg hk, if_neg hk];exact ih _
theorem closure_ok {scope : Scope} {env : Env} (h : ∀ y ∈ scope.names, y.2 = .free -> ∃ c, env.cells.lookup y.1 = some c) : closureFor scope env = pure (x9 env.cells scope.names []) := by
  simp only [closureFor];rw [closure_loop env _ (fun n k c => rfl) scope.names [] h];rfl
theorem mem_lookup {α : Type} : ∀ {l : List (Str × α)} {n : Str} {c : α}, (n, c) ∈ l -> ∃ c', l.lookup n = some c'
  | (k, v) :: r, n, c, h => by
    rw [List.lookup_cons];cases hb : n == k with
    | true => exact ⟨_, rfl⟩
    | false =>
      rcases List.mem_cons.mp h with e | h
      · cases e; simp at hb
      · exact mem_lookup h
theorem cloFrom_mem {cells : List (Str × Addr)} : ∀ {names : List (Str × NameKind)} {acc : List (Str × Addr)} {n : Str} {c : Addr}, (n, c) ∈ x9 cells names acc -> (n, c) ∈ acc \/ ((n, .free) ∈ names /\ c = (cells.lookup n).getD 0)
  | [], _, _, _, h => .inl h
  | (m, k) :: r, acc, n, c, h => by
    unfold x9 at h
    split at h
    · rename_i hk
      have hk : k = .free := by simpa using hk
      rcases cloFrom_mem h with h | ⟨h1, h2⟩
      · rcases List.mem_cons.mp h with e | h
        · cases e; exact .inr ⟨hk ▸ List.mem_cons_self, rfl⟩
        · exact .inl h
      · exact .inr ⟨List.mem_cons_of_mem _ h1, h2⟩
    · rcases cloFrom_mem h with h | ⟨h1, h2⟩
      · exact .inl h
      · exact .inr ⟨List.mem_cons_of_mem _ h1, h2⟩
theorem cloFrom_acc {cells : List (Str × Addr)} : ∀ {names : List (Str × NameKind)} {acc : List (Str × Addr)} {p : Str × Addr}, p ∈ acc -> p ∈ x9 cells names acc
  | [], _, _, h => h
  | (m, k) :: r, acc, p, h => by
    unfold x9
    split
    · exact cloFrom_acc (List.mem_cons_of_mem _ h)
    · exact cloFrom_acc h
theorem cloFrom_has {cells : List (Str × Addr)} : ∀ {names : List (Str × NameKind)} {acc : List (Str × Addr)} {n : Str}, (n, .free) ∈ names -> (n, (cells.lookup n).getD 0) ∈ x9 cells names acc
  | (m, k) :: r, acc, n, h => by
    unfold x9;rcases List.mem_cons.mp h with e | h
    · cases e;exact cloFrom_acc List.mem_cons_self
    · split
      · exact cloFrom_has h
      · exact cloFrom_has h
theorem cells_mem : ∀ {names : List (Str × NameKind)} {h : Heap} {acc : List (Str × Addr)} {x : Str} {c : Addr}, (x, c) ∈ cellsFrom h.objs.size names acc ->
    (x, c) ∈ acc \/ ((x, .cell) ∈ names /\ h.objs.size <= c /\ CellAt (pushCells h names) c none)
  | [], _, _, _, _, h => .inl h
  | (n, k) :: r, h, acc, x, c, hm => by
    unfold cellsFrom at hm;unfold pushCells
    split at hm
    · rename_i hk
      rw [if_pos hk];have hk : k = .cell := by simpa using hk
      rw [<- Heap.size_push h { cls := .type "cell", data := .cell none }] at hm;rcases cells_mem hm with hm | ⟨h1, h2, h3⟩
      · rcases List.mem_cons.mp hm with e | hm
        · cases e;exact .inr ⟨hk ▸ List.mem_cons_self, Nat.le_refl _, _, pushCells_keeps r _ _ _ (Heap.get?_push_size _ rfl), rfl⟩
        · exact .inl hm
      · rw [Heap.size_push] at h2;exact .inr ⟨List.mem_cons_of_mem _ h1, Nat.le_of_succ_le h2, h3⟩
    · rename_i hk
      rw [if_neg hk];rcases cells_mem hm with hm | ⟨h1, h2, h3⟩
      · exact .inl hm
      · exact .inr ⟨List.mem_cons_of_mem _ h1, h2, h3⟩
theorem cells_acc : ∀ {names : List (Str × NameKind)} {n : Nat} {acc : List (Str × Addr)} {p : Str × Addr}, p ∈ acc -> p ∈ cellsFrom n names acc
  | [], _, _, _, h => h
  | (m, k) :: r, n, acc, p, h => by
    unfold cellsFrom
    split
    · exact cells_acc (List.mem_cons_of_mem _ h)
    · exact cells_acc h
theorem cells_has : ∀ {names : List (Str × NameKind)} {n : Nat} {acc : List (Str × Addr)} {x : Str}, (x, .cell) ∈ names -> ∃ c, (x, c) ∈ cellsFrom n names acc
  | (m, k) :: r, n, acc, x, h => by
    unfold cellsFrom;rcases List.mem_cons.mp h with e | h
    · cases e;exact ⟨n, cells_acc List.mem_cons_self⟩
    · split
      · exact cells_has h
      · exact cells_has h
theorem cells_inj : ∀ {names : List (Str × NameKind)} {h : Heap} {acc : List (Str × Addr)} {x y : Str} {c : Addr}, (∀ p ∈ acc, p.2 < h.objs.size) -> (∀ x y c, (x, c) ∈ acc -> (y, c) ∈ acc -> x = y) ->
    (x, c) ∈ cellsFrom h.objs.size names acc -> (y, c) ∈ cellsFrom h.objs.size names acc -> x = y
  | [], _, _, _, _, _, _, hi, h1, h2 => hi _ _ _ h1 h2
  | (n, k) :: r, h, acc, x, y, c, hl, hi, h1, h2 => by
    unfold cellsFrom at h1 h2
    split at h1
    · rename_i hk
      rw [if_pos hk] at h2;rw [<- Heap.size_push h { cls := .type "cell", data := .cell none }] at h1 h2;refine cells_inj (h := h.push _) (fun p hp => ?_) (fun x y c a b => ?_) h1 h2
      · rw [Heap.size_push];rcases List.mem_cons.mp hp with rfl | hp
        · exact Nat.lt_succ_self _
        · exact Nat.lt_succ_of_lt (hl p hp)
      · rcases List.mem_cons.mp a with e | a <;> rcases List.mem_cons.mp b with e' | b
        · cases e; cases e'; rfl
        · cases e; exact absurd (hl _ b) (Nat.lt_irrefl _)
        · cases e'; exact absurd (hl _ a) (Nat.lt_irrefl _)
        · exact hi _ _ _ a b
    · rename_i hk
      rw [if_neg hk] at h2;exact cells_inj hl hi h1 h2
theorem newEnv_comp {M : Model} {A : Around} {E : Value -> Shared -> Prop} {s : Shared} {scope : Scope} {globals : Addr} {closure : List (Str × Addr)} {qual : Str} {func : Option Addr} {code : Value} {around : Env} {builtins : Addr} {Q : Env -> Shared -> Prop}
    (h : Q (newEnv scope s.heap.objs.size globals (cellsFrom (s.heap.objs.size + 1) scope.names closure) qual func code (some around) builtins)
      { s with heap := pushCells (s.heap.push { cls := .type "dict", data := .dict #[] }) scope.names }) :
    wpAny M A (newFunctionEnv scope globals closure [] qual func code (some around) builtins) Q E s := by
  simp only [newFunctionEnv, Option.isSome_some, if_true];refine wpAny_bind (wpAny_alloc ?_);refine wpAny_bind (wpAny_layCells _ (fun n k c => rfl) scope.names closure _ _ ?_);rw [show ({ s with heap := s.heap.push { cls := .type "dict", data := .dict #[] } } : Shared).heap.objs.size = s.heap.objs.size + 1 from Heap.size_push ..];rw [List.forIn_nil];exact wpAny_bind (wpAny_pure (wpAny_pure h))
theorem lookup_relS {sc : Scope} : ∀ {names : List (Str × NameKind)} {x : Str} {k : NameKind},
    (names.map fun (n, k) => if (k == NameKind.free && sc.kind == .function && sc.names.lookup n == some .cell) then (n, NameKind.cell) else (n, k)).lookup x = some k ->
    ∃ k', names.lookup x = some k' /\ (k = k' \/ (k' = .free /\ k = .cell))
  | [], _, _, h => by simp at h
  | (n, k₀) :: r, x, k, h => by
    have ih := @lookup_relS sc r x k;have h' : List.lookup x ((if (k₀ == NameKind.free && sc.kind == .function && sc.names.lookup n == some .cell) = true then (n, NameKind.cell) else (n, k₀)) :: (r.map _)) = some k := h;cases hx : x == n with
    | true =>
      simp only [List.lookup_cons, hx];by_cases hc : (k₀ == NameKind.free && sc.kind == .function && sc.names.lookup n == some .cell) = true
      · rw [if_pos hc] at h';simp only [List.lookup_cons, hx] at h';cases h';simp only [Bool.and_eq_true, beq_iff_eq] at hc;exact ⟨k₀, rfl, .inr ⟨hc.1.1, rfl⟩⟩
      · rw [if_neg hc] at h';simp only [List.lookup_cons, hx] at h';cases h';exact ⟨_, rfl, .inl rfl⟩
    | false =>
      simp only [List.lookup_cons, hx];by_cases hc : (k₀ == NameKind.free && sc.kind == .function && sc.names.lookup n == some .cell) = true
      · rw [if_pos hc] at h';simp only [List.lookup_cons, hx] at h';exact ih h'
      · rw [if_neg hc] at h';simp only [List.lookup_cons, hx] at h';exact ih h'
structure BlkOk (N : List Str) (sc scope : Scope) (own : List (Str × Nat)) : Prop where
  kind : scope.kind = .function
  uniq : ∀ y ∈ scope.names, scope.names.lookup y.1 = some y.2
  ix : ∀ p ∈ own, N[p.2]? = some p.1
  free : ∀ y ∈ scope.names, y.2 = .free -> sc.names.lookup y.1 = some .cell \/ sc.names.lookup y.1 = some .free
  own : ∀ y ∈ scope.names, y.2 = .local \/ y.2 = .cell -> y.1 ∈ own.map (·.1) \/ y.1 ∉ N
def wipe (σ : St) : List Nat -> St
  | [] => σ
  | v :: vs => (wipe σ vs).set v none
theorem wipe_length (σ : St) : ∀ vs : List Nat, (wipe σ vs).length = σ.length
  | [] => rfl
  | v :: vs => by unfold wipe; rw [List.length_set, wipe_length σ vs]
theorem wipe_some {σ : St} {i : Nat} {x : V} : ∀ {vs : List Nat}, (wipe σ vs)[i]? = some (some x) -> σ[i]? = some (some x) /\ i ∉ vs
  | [], h => ⟨h, by simp⟩
  | v :: vs, h => by
    unfold wipe at h;by_cases hi : v = i
    · subst hi;by_cases hv : v < (wipe σ vs).length
      · rw [List.getElem?_set_self hv] at h; cases h
      · rw [List.getElem?_eq_none (by simpa using hv)] at h; cases h
    · rw [List.getElem?_set_ne hi] at h;obtain ⟨h1, h2⟩ := wipe_some h;exact ⟨h1, by simp only [List.mem_cons, not_or]; exact ⟨fun e => hi e.symm, h2⟩⟩
abbrev Cx.blk (X : Cx) (s : Shared) (H : Hp) (scope : Scope) (cenv : Env) (fp : List Addr) : Cx := { X with s_0 := s, H_0 := H, env := cenv, outer := X.stack, ex := fp, fn := fun x => scope.names.lookup x == some .cell, pn := [], xe := fun _ _ => False }
section
variable {X : Cx} {pins : List (Addr × Obj)} {σ : St} {H : Hp} {s : Shared}
theorem block_start {scope : Scope} {own : List (Str × Nat)} {fp : List Addr} (I : Inv X pins σ H s) (ok : BlkOk X.N X.env.scope scope own) (hN : X.N.Nodup) (hfp : ∀ b ∈ fp, FpOk X pins H b /\ b < s.heap.objs.size) :
    Inv (X.blk s H scope (compEnvC scope (cellsFrom (s.heap.objs.size + 1) scope.names (x9 X.env.cells scope.names [])) s.heap.objs.size X.env) fp) [] (wipe σ (own.map (·.2))) H { s with heap := pushCells (s.heap.push { cls := .type "dict", data := .dict #[] }) scope.names } := by
  have hfree : ∀ y ∈ scope.names, y.2 = .free -> ∃ c, X.env.cells.lookup y.1 = some c := fun y hy e => by
    rcases ok.free y hy e with k | k
    · exact I.ok.has _ (.inl k)
    · exact I.ok.has _ (.inr k)
  generalize hcenv : compEnvC scope (cellsFrom (s.heap.objs.size + 1) scope.names (x9 X.env.cells scope.names [])) s.heap.objs.size X.env = cenv;have kp : ∀ b o, s.heap.get? b = some o -> (pushCells (s.heap.push { cls := .type "dict", data := .dict #[] }) scope.names).get? b = some o := fun b o e => pushCells_keeps _ _ _ _ (Heap.get?_push_of_some _ e)
  have hL : cenv.locals = s.heap.objs.size := by rw [<- hcenv]; rfl
  have hcl : cenv.cells = cellsFrom (s.heap.objs.size + 1) scope.names (x9 X.env.cells scope.names []) := by rw [<- hcenv]; rfl
  have hsc : cenv.scope = relS scope X.env.scope := by rw [<- hcenv]; rfl
  rw [<- Heap.size_push s.heap { cls := .type "dict", data := .dict #[] }] at hcl
  have cm : ∀ {y c}, (y, c) ∈ x9 X.env.cells scope.names [] -> X.env.cells.lookup y = some c /\ c < s.heap.objs.size := fun {y c} hm => by
    rcases cloFrom_mem hm with hm | ⟨h1, rfl⟩
    · cases hm
    · obtain ⟨c, hc⟩ := hfree _ h1 rfl;rw [hc];obtain ⟨w, z⟩ := I.cell _ _ hc;exact ⟨rfl, z.lt⟩
  have mem : ∀ {y c}, cenv.cells.lookup y = some c -> (X.env.cells.lookup y = some c /\ c < s.heap.objs.size) \/ (s.heap.objs.size + 1 <= c /\ CellAt (pushCells (s.heap.push { cls := .type "dict", data := .dict #[] }) scope.names) c none) := fun {y c} e => by
    rw [hcl] at e;rcases cells_mem (PySem.mem_of_lookup e) with hm | ⟨_, h2, h3⟩
    · exact .inl (cm hm)
    · rw [Heap.size_push] at h2; exact .inr ⟨h2, h3⟩
  have look : ∀ {y}, scope.names.lookup y = some .free -> ∃ c, cenv.cells.lookup y = some c /\ X.env.cells.lookup y = some c := fun {y} hl => by
    have hy : (y, NameKind.free) ∈ scope.names := PySem.mem_of_lookup hl;obtain ⟨c', e'⟩ := mem_lookup (cells_acc (names := scope.names) (n := (s.heap.push { cls := .type "dict", data := .dict #[] }).objs.size) (cloFrom_has (cells := X.env.cells) (acc := []) hy));rw [<- hcl] at e';refine ⟨c', e', ?_⟩;rw [hcl] at e';rcases cells_mem (PySem.mem_of_lookup e') with hm | ⟨h1, _, _⟩
    · exact (cm hm).1
    · have := ok.uniq _ h1;rw [hl] at this; cases this
  have okB : (X.blk s H scope cenv fp).Ok := by
    refine ⟨I.ok.mod, by show cenv.scope.kind = _; rw [hsc]; exact ok.kind, by show cenv.globals = _; rw [<- hcenv]; exact I.ok.glob, by show cenv.builtins = _; rw [<- hcenv]; exact I.ok.blt, by show s.heap.objs.size <= cenv.locals; rw [hL]; exact Nat.le_refl _,
      fun y z c e1 e2 => ?_, fun y hy => ?_, fun y c z e => ?_, I.ok.hd, I.ok.frames, .inl rfl, fun b hb => ⟨?_, fun y c e z => ?_⟩, I.bs, Nat.le_trans I.ok.bsz I.sz, fun b o e hb => ?_, fun b hb z => ?_, I.stack, I.stkFree⟩
    · have e1 : cenv.cells.lookup y = some c := e1;have e2 : cenv.cells.lookup z = some c := e2;rw [hcl] at e1 e2;refine cells_inj (fun p hp => ?_) (fun y z c a b => I.ok.inj y z c (cm a).1 (cm b).1) (PySem.mem_of_lookup e1) (PySem.mem_of_lookup e2);rw [Heap.size_push];exact Nat.lt_succ_of_lt (cm (y := p.1) (c := p.2) hp).2
    · show ∃ c, cenv.cells.lookup y = some c
      have key : ∀ k, cenv.kindOf y = some k -> (k = .cell \/ k = .free) -> ∃ c, cenv.cells.lookup y = some c := fun k hk hk' => by
        unfold Env.kindOf at hk;rw [hsc] at hk;obtain ⟨k', e, r⟩ := lookup_relS hk
        have : k' = .cell \/ k' = .free := by
          rcases r with rfl | ⟨rfl, _⟩
          · exact hk'
          · exact .inr rfl
        rcases this with rfl | rfl
        · obtain ⟨c, hm⟩ := cells_has (n := (s.heap.push { cls := .type "dict", data := .dict #[] }).objs.size) (acc := x9 X.env.cells scope.names []) (PySem.mem_of_lookup e);obtain ⟨c', e'⟩ := mem_lookup hm;exact ⟨c', by rw [hcl]; exact e'⟩
        · obtain ⟨c, h1, _⟩ := look e;exact ⟨c, h1⟩
      rcases hy with hy | hy
      · exact key _ hy (.inl rfl)
      · exact key _ hy (.inr rfl)
    · have z : (scope.names.lookup y == some NameKind.cell) = true := z;have z : scope.names.lookup y = some .cell := by simpa using z
      have e : cenv.cells.lookup y = some c := e;rw [hcl] at e;rcases cells_mem (PySem.mem_of_lookup e) with hm | ⟨_, h2, _⟩
      · rcases cloFrom_mem hm with hm | ⟨h1, _⟩
        · cases hm
        · have q := ok.uniq _ h1;rw [z] at q; cases q
      · rw [Heap.size_push] at h2;exact Nat.le_of_succ_le h2
    · show b ≠ cenv.locals;rw [hL]; exact Nat.ne_of_lt (hfp b hb).2
    · have e : cenv.cells.lookup y = some c := e;rcases mem e with ⟨h1, _⟩ | ⟨h1, _⟩
      · exact (hfp b hb).1.2.2.2.2.1 y c h1 z
      · have h2 : s.heap.objs.size + 1 <= b := by rw [<- z]; exact h1
        exact absurd (Nat.lt_of_lt_of_le (hfp b hb).2 (Nat.le_of_succ_le h2)) (Nat.lt_irrefl _)
    · rcases (hfp b hb).1.2.2.2.1 with z | z
      · exact I.ok.noex b o e z
      · exact absurd (Nat.lt_of_lt_of_le (Heap.lt_size e) (Nat.le_trans I.ok.bsz z)) (Nat.lt_irrefl _)
    · rcases List.mem_cons.mp (I.stkSub b z) with z | z
      · exact (hfp b hb).1.2.1 z
      · exact (hfp b hb).1.2.2.1 z
  refine ⟨okB, rfl, I.bare, Un.kept kp, ⟨fun _ => none, ?_, fun i y av e1 e2 e3 => ?_⟩, fun y c e => ?_, ?_, fun y c e => ?_, fun p hp => ?_, I.hok.kept kp, by rw [wipe_length]; exact I.len⟩
  · show Heap.Ns _ cenv.locals _;rw [hL];exact Heap.Ns.keeps (Heap.Ns.new ..) fun b o e => pushCells_keeps _ _ _ _ e
  · obtain ⟨e2, hne⟩ := wipe_some e2
    have hfr : scope.names.lookup y = some .free /\ (cenv.kindOf y = some .cell \/ cenv.kindOf y = some .free) := by
      have key : ∀ k, cenv.scope.names.lookup y = some k -> k = .local \/ k = .cell \/ k = .free -> scope.names.lookup y = some .free /\ (cenv.kindOf y = some .cell \/ cenv.kindOf y = some .free) := fun k hk hk' => by
        have hk0 := hk;rw [hsc] at hk;obtain ⟨k', e, r⟩ := lookup_relS hk
        have no : ¬ (k' = .local \/ k' = .cell) := fun hh => by
          rcases ok.own _ (PySem.mem_of_lookup e) hh with e' | e'
          · obtain ⟨p, hp, hpy⟩ := List.mem_map.mp e';have e3 := ok.ix p hp;have : p.1 = y := hpy;rw [this] at e3;exact hne (List.mem_map.mpr ⟨p, hp, nodup_ix hN e3 e1⟩)
          · exact e' (List.mem_of_getElem? e1)
        rcases r with rfl | ⟨rfl, rfl⟩
        · rcases hk' with rfl | rfl | rfl
          · exact absurd (.inl rfl) no
          · exact absurd (.inr rfl) no
          · exact ⟨e, .inr hk0⟩
        · exact ⟨e, .inl hk0⟩
      have e3 : Vis cenv.scope y := e3;rcases e3 with e3 | e3 | e3
      · exact key _ e3 (.inl rfl)
      · exact key _ e3 (.inr (.inl rfl))
      · exact key _ e3 (.inr (.inr rfl))
    obtain ⟨m, hn, hl⟩ := I.loc;have hvis : Vis X.env.scope y := (ok.free _ (PySem.mem_of_lookup hfr.1) rfl).elim (fun k => .inr (.inl k)) (fun k => .inr (.inr k));obtain ⟨w, r, q⟩ := hl i y av e1 e2 hvis;refine ⟨w, r, .inr ⟨hfr.2, ?_⟩⟩;obtain ⟨c, h1, h2⟩ := look hfr.1;rcases q with ⟨k, _⟩ | ⟨_, c', e', z⟩
    · have k : X.env.scope.names.lookup y = some .local := k;rcases ok.free _ (PySem.mem_of_lookup hfr.1) rfl with k' | k' <;> rw [show X.env.scope.names.lookup y = _ from k'] at k <;> cases k
    · rw [h2] at e'; cases e';exact ⟨c, h1, z.keeps kp⟩
  · have e : cenv.cells.lookup y = some c := e;rcases mem e with ⟨h1, _⟩ | ⟨_, z⟩
    · obtain ⟨w, z⟩ := I.cell y c h1;exact ⟨w, z.keeps kp⟩
    · exact ⟨_, z⟩
  · show H cenv.locals = none;rw [hL]; exact I.hok.fresh (Nat.le_refl _)
  · have e : cenv.cells.lookup y = some c := e;rcases mem e with ⟨h1, _⟩ | ⟨h1, _⟩
    · exact I.freeC y c h1
    · exact I.hok.fresh (Nat.le_of_succ_le h1)
  · exact absurd (show p ∈ ([] : List (Addr × Obj)) ++ [] from hp) (by simp)
theorem app_ok {E : Value -> Shared -> Prop} {D : Addr} {xs : List V} {y : V} {v : Value} {Q : Value -> Shared -> Prop} (I : Inv X pins σ H s) (hD : H D = some (.lst xs)) (hz : xs.length < sizeLine) (r : RelV y v)
    (h : ∀ s', Inv X pins σ (upd H D (.lst (xs ++ [y]))) s' -> Q .none s') : wpAny (model X.prog X.w) X.A (call (.builtin "list.append") [.ref D, v]) Q E s := by
  obtain ⟨hz', its, n, ri, e⟩ := I.hok D _ hD;have hl := ri.length;refine append_at (hsz := by rw [List.size_toArray]; omega) e fun h' sb ho' => ?_
  refine h { s with heap := h' } (I.write (t' := s.toks) (by rw [hD]; trivial) (.inl rfl) (fun b u hb q => (sb.2 b hb).trans q) ⟨_, ho'⟩ ⟨by rw [List.length_append]; exact hz, its ++ [v], n + 1, ri.append (.cons r .nil), ?_⟩);rw [ho'];simp
def PTs (X : Cx) (ifs : List Expr) (t : TT) : Prop :=
  ∀ (pins : List (Addr × Obj)) (s : Shared) (σ : St) (H : Hp) (Q : Bool -> Hp -> Prop), Inv X pins σ H s -> t σ H Q ->
    wpAny (model X.prog X.w) X.A (forIn ifs true fun c r => if r = true then do let ok <- isTrue c X.env (eval c X.env); pure (ForInStep.yield ok) else pure (ForInStep.yield r)) (TP X pins σ Q) X.xe s
def tYes : TT := fun _ H Q => Q true H
theorem pts_nil : PTs X [] tYes := fun _ _ _ H _ I h => wpAny_tests_nil ⟨H, I, h⟩
theorem pts_one {c : Expr} {t : TT} (h : PT X c t) : PTs X [c] t := fun pins s σ H Q I hw => wpAny_tests_one (h pins s σ H Q I hw)
end
theorem thnF {α : Type} {t : Sem α} {Q Q' : α -> Shared -> Prop} {M : Model} {A : Around} {E : Value -> Shared -> Prop} {s : Shared} (h : wpAny M A t Q (fun _ _ => False) s) (hQ : ∀ a s, Q a s -> Q' a s) : wpAny M A t Q' E s := wpAny_mono h hQ fun _ _ z => False.elim z
theorem compLoop_any {prog : Program} {w : World} {A : Around} {R : Result -> Shared -> Prop} {s : Shared} {elt target iter : Expr} {ifs : List Expr} {scope : Scope} {pos : Pos} {it acc : Value} {env : Env} (I : Nat -> Shared -> Prop)
    (turn : ∀ n s, I n s -> wpAny (model prog w) A (pyNext it) (fun r s₁ => match r with
      | none => R (.ok .next) s₁
      | some v => wpAny (model prog w) A (letOwnedTupleGo target it v) (fun _ s₁' => wpAny (model prog w) A (assign target env v) (fun _ s₂ =>
          wpAny (model prog w) A (forIn ifs true fun c r => if r = true then do let ok <- isTrue c env (eval c env); pure (ForInStep.yield ok) else pure (ForInStep.yield r)) (fun ok s₃ =>
            if ok = true then wpAny (model prog w) A (eval elt env) (fun x s₄ =>
              wpAny (model prog w) A (call (.builtin "list.append") [acc, x]) (fun _ s₅ => ∃ m, m < n /\ I m s₅) (notedBy (model prog w) A env fun e s' => R (.error e) s') s₄) (notedBy (model prog w) A env fun e s' => R (.error e) s') s₃
            else ∃ m, m < n /\ I m s₃) (notedBy (model prog w) A env fun e s' => R (.error e) s') s₂) (notedBy (model prog w) A env fun e s' => R (.error e) s') s₁') (notedBy (model prog w) A env fun e s' => R (.error e) s') s₁) (notedBy (model prog w) A env fun e s' => R (.error e) s') s)
    (n : Nat) (h : I n s) :
    codeAny (model prog w) A (.compLoop (.ListComp elt [⟨target, iter, ifs, 0⟩] scope pos) 0 it acc env) R s := by
  refine codeAny_loop rfl I (fun n s hI => ?_) n h;show wpAny _ A ((compTurn (.ListComp elt [⟨target, iter, ifs, 0⟩] scope pos) 0 it acc env).onRaise (fun x => do noteFrame x env; theTreesLotGoes x)) _ _ s;refine wpAny_noted ?_;rw [compTurn_list];refine wpAny_bind (wpAny_standAt (wpAny_bind (wpAny_mono (turn n s hI) (fun r s₁ h₁ => ?_) fun _ _ h' => h')));cases r with
  | none => exact wpAny_pure h₁
  | some v =>
    refine wpAny_bind (wpAny_mono h₁ (fun _ s₁' h₁' => ?_) fun _ _ h' => h');refine wpAny_bind (wpAny_mono h₁' (fun _ s₂ h₂ => wpAny_bind (wpAny_mono h₂ (fun ok s₃ h₃ => ?_) fun _ _ h' => h')) fun _ _ h' => h');cases ok with
    | false => exact wpAny_pure ⟨rfl, h₃⟩
    | true =>
      exact wpAny_bind (wpAny_bind (wpAny_mono h₃ (fun x s₄ h₄ => wpAny_bind (wpAny_mono h₄ (fun _ s₅ h₅ => wpAny_pure (wpAny_pure ⟨rfl, h₅⟩)) fun _ _ h' => h')) fun _ _ h' => h'))
section
variable {X : Cx}
def tLc (wi : TI) (g : TG) (tt : TT) (te : TE) (vs : List Nat) : TE := fun σ H Q => wi σ H fun J H1 => ∀ D, H1 D = none -> ∃ W : Nat -> Nat -> Hp -> Prop, (∃ m, W 0 m (upd H1 D (.lst []))) /\ ∀ i m H, W i m H ->
  (J.stop i H /\ Q (.ref D) H) \/ (J.go i H /\ ∃ Nx : Hp -> Prop, (∀ H', Nx H' -> ∃ m', m' < m /\ W (i + 1) m' H') /\ ∀ x H', J.yld i H x H' -> g x (wipe σ vs) H' fun σ2 H2 => wipe σ2 vs = wipe σ vs /\ tt σ2 H2 fun b H3 =>
    if b = true then te σ2 H3 fun y H4 => ∃ acc, H4 D = some (.lst acc) /\ acc.length < sizeLine /\ Nx (upd H4 D (.lst (acc ++ [y]))) else Nx H3)
theorem lc_core {pins : List (Addr × Obj)} {s : Shared} {σ : St} {H : Hp} {Q : VK} {elt tg iter : Expr} {ifs : List Expr} {scope : Scope} {own : List (Str × Nat)} {pos pos' : Pos} {wi : TI} {g : TG} {tt : TT} {te : TE} {use : Option (Value -> Sem Unit)} {Qf : Value -> Shared -> Prop}
    (hc : X.calm = true) (hN : X.N.Nodup) (I : Inv X pins σ H s) (hi : PI X tg iter wi) (ok : BlkOk X.N X.env.scope scope own)
    (hg : ∀ (s : Shared) (H : Hp) (C : Addr) (cl : List (Str × Addr)) (fp : List Addr), PG (X.blk s H scope (compEnvC scope cl C X.env) fp) tg g) (ht : ∀ (s : Shared) (H : Hp) (C : Addr) (cl : List (Str × Addr)) (fp : List Addr), PTs (X.blk s H scope (compEnvC scope cl C X.env) fp) ifs tt)
    (he : ∀ (s : Shared) (H : Hp) (C : Addr) (cl : List (Str × Addr)) (fp : List Addr), PE (X.blk s H scope (compEnvC scope cl C X.env) fp) elt te) (hs : ∀ x, foldedSetIterable iter X.env x = pure x)
    (h : tLc wi g tt te (own.map (·.2)) σ H Q)
    (hRR : ∀ D C s' m H', Inv X pins σ H' s' -> Q (.ref D) H' -> s'.heap.Ns C m -> FpOk X pins H' C -> compPost (model X.prog X.w) X.A X.xe use Qf (.ref D) C (.ok .next) s') :
    wpAny (model X.prog X.w) X.A (comprehension (.ListComp elt [⟨tg, iter, ifs, 0⟩] scope pos) scope X.env pos' (newList []) false (eval iter X.env) use) Qf X.xe s := by
  have hfree : ∀ y ∈ scope.names, y.2 = .free -> ∃ c, X.env.cells.lookup y.1 = some c := fun y hy e => by
    rcases ok.free y hy e with k | k
    · exact I.ok.has _ (.inl k)
    · exact I.ok.has _ (.inr k)
  refine wpAny_comprehension_free (use := use) rfl hs (closure_ok hfree) ok.kind (fun y hy e => by rw [ok.uniq y hy, e])
    (thn (hi pins s σ H _ I h) fun xv s1 hx => thn hx fun itv s2 h2 => ?_)
  obtain ⟨it, fp, tn, J, H2, e, I2, T, st2, f2, q⟩ := h2;subst e;refine wpAny_newObj_type (newEnv_comp ?_) (by show 0 <= sizeLine; decide);generalize hD : s2.heap.objs.size = D;have hDn : H2 D = none := I2.hok.fresh (Nat.le_of_eq hD);obtain ⟨W, ⟨m0, w0⟩, turn⟩ := q D hDn;generalize hs3 : ({ s2 with heap := s2.heap.push { cls := .type "list", data := .seq ([] : List Value).toArray } } : Shared) = s3
  have I3 : Inv X pins σ (upd H2 D (.lst [])) s3 := by
    rw [<- hs3];refine I2.laid (t' := s2.toks) (fun b o e => Heap.get?_push_of_some _ e) (Nat.le_of_eq hD) ⟨Nat.zero_le _, [], 0, .nil, ?_⟩;rw [<- hD];exact Heap.get?_push_size _ rfl
  have h3 : s3.heap = s2.heap.push { cls := .type "list", data := .seq ([] : List Value).toArray } := by rw [<- hs3]
  have sz : ∀ b ∈ fp, b < s2.heap.objs.size := fun b hb => by
    obtain ⟨o, e, _⟩ := T.obj _ _ st2 b hb;exact Heap.lt_size e
  have f3 : ∀ b ∈ fp, FpOk X pins (upd H2 D (.lst [])) b /\ b < s3.heap.objs.size := fun b hb => by
    have hlt := sz b hb;refine ⟨⟨?_, (f2 b hb).2⟩, by rw [h3, Heap.size_push]; exact Nat.lt_succ_of_lt hlt⟩;rw [y9 (by rw [<- hD]; exact Nat.ne_of_lt hlt)];exact (f2 b hb).1
  have st3 : tn 0 s3.heap := T.keep _ _ _ st2 fun b _ o e => by rw [h3]; exact Heap.get?_push_of_some _ e
  have I4 := block_start I3 ok hN f3;have pg := hg s3 (upd H2 D (.lst [])) s3.heap.objs.size (cellsFrom (s3.heap.objs.size + 1) scope.names (x9 X.env.cells scope.names [])) fp;have pt := ht s3 (upd H2 D (.lst [])) s3.heap.objs.size (cellsFrom (s3.heap.objs.size + 1) scope.names (x9 X.env.cells scope.names [])) fp;have pe := he s3 (upd H2 D (.lst [])) s3.heap.objs.size (cellsFrom (s3.heap.objs.size + 1) scope.names (x9 X.env.cells scope.names [])) fp;show codeAny _ _ (.compStart (.ListComp elt [⟨tg, iter, ifs, 0⟩] scope pos) 0 (.ref it) (.ref D) (compEnvC scope (cellsFrom (s3.heap.objs.size + 1) scope.names (x9 X.env.cells scope.names [])) s3.heap.objs.size X.env)) (compPost (model X.prog X.w) X.A X.xe use Qf (.ref D) s3.heap.objs.size) { s3 with heap := pushCells (s3.heap.push { cls := .type "dict", data := .dict #[] }) scope.names };have nfp : ∀ b ∈ fp, (upd H2 D (.lst [])) b = none := fun b hb => (f3 b hb).1.1
  generalize hce : compEnvC scope (cellsFrom (s3.heap.objs.size + 1) scope.names (x9 X.env.cells scope.names [])) s3.heap.objs.size X.env = ce at I4 pg pt pe ⊢;have cL : ce.locals = s3.heap.objs.size := by subst hce; rfl
  generalize hH3 : upd H2 D (.lst []) = H3 at I3 I4 pg pt pe w0 nfp f3;generalize hs4 : ({ s3 with heap := pushCells (s3.heap.push { cls := .type "dict", data := .dict #[] }) scope.names } : Shared) = s4 at I4 ⊢;have st4 : tn 0 s4.heap := T.keep _ _ _ st3 fun b _ o e => by rw [<- hs4]; exact pushCells_keeps _ _ _ _ (Heap.get?_push_of_some _ e)
  have stat : ∀ {σ' : St} {H' : Hp} {s' : Shared}, Inv (X.blk s3 H3 scope ce fp) [] σ' H' s' -> (∀ b ∈ fp, H' b = none) -> ∀ b ∈ fp, FpOk (X.blk s3 H3 scope ce fp) [] H' b := fun {σ' H' s'} I' hn b hb =>
    ⟨hn b hb, (I'.ok.exf b hb).1, I'.ok.exfs b hb, .inl hb, fun x c e => (I'.ok.exf b hb).2 x c e, fun p hp => absurd (show p ∈ ([] : List (Addr × Obj)) ++ [] from hp) (by simp)⟩
  have loop : codeAny (model X.prog X.w) X.A (.compLoop (.ListComp elt [⟨tg, iter, ifs, 0⟩] scope pos) 0 (.ref it) (.ref D) ce) (compPost (model X.prog X.w) X.A X.xe use Qf (.ref D) s3.heap.objs.size) s4 := by
    refine compLoop_any (fun n s' => ∃ i H', Inv (X.blk s3 H3 scope ce fp) [] (wipe σ (own.map (·.2))) H' s' /\ tn i s'.heap /\ (∀ b ∈ fp, H' b = none) /\ W i n H') ?_ m0 ⟨0, H3, I4, st4, nfp, w0⟩;rintro n s5 ⟨i, H5, I5, st5, n5, w5⟩;rcases turn i n H5 w5 with ⟨stop, qq⟩ | ⟨go, Nx, hNx, step⟩
    · have td := T.done (X.blk s3 H3 scope ce fp) rfl rfl rfl hc i [] s5 _ H5 (fun _ _ => False) I5 (stat I5 n5) st5 stop;refine thnF td fun r s6 ⟨hr, I6⟩ => ?_
      subst hr;have I7 : Inv X pins σ H5 s6 := I3.call' (ch := fp) I6.os I6.base I6.hok I6.bare fun b hb => ⟨(f3 b hb).1.2.2.2.1, (f3 b hb).1.2.1, (f3 b hb).1.2.2.2.2.1, (f3 b hb).1.2.2.2.2.2⟩
      have nC : H5 s3.heap.objs.size = none := by
        have z : H5 ce.locals = none := I6.free;rw [cL] at z;exact z
      obtain ⟨m, hn, _⟩ := I6.loc;have hn : s6.heap.Ns ce.locals m := hn;rw [cL] at hn;exact hRR D s3.heap.objs.size s6 m H5 I7 qq hn (I3.fpOk (Nat.le_refl _) nC)
    · have ti := T.item (X.blk s3 H3 scope ce fp) rfl rfl rfl hc i [] s5 _ H5 (fun _ _ => False) I5 (stat I5 n5) st5 go;refine thnF ti fun r s6 ⟨u, hr, h6⟩ => ?_
      subst hr;refine thnF h6 fun _ s7 ⟨x, H7, I7, r7, y7, st7, n7⟩ => ?_
      have I7' := I7.pinned (stat I7 n7) (T.obj _ _ st7);refine thnF (pg _ s7 _ H7 x u _ I7' r7 (step x H7 y7)) fun _ s8 ⟨σ8, H8, I8, hw8, q8⟩ => ?_
      refine thnF (pt _ s8 σ8 H8 _ I8 q8) fun b s9 ⟨H9, I9, q9⟩ => ?_
      have fin : ∀ {s' : Shared} {H' : Hp}, Inv (X.blk s3 H3 scope ce fp) ([] ++ pinsAt fp s7.heap) σ8 H' s' -> Nx H' -> ∃ m, m < n /\ ∃ i H', Inv (X.blk s3 H3 scope ce fp) [] (wipe σ (own.map (·.2))) H' s' /\ tn i s'.heap /\ (∀ b ∈ fp, H' b = none) /\ W i m H' := fun {s' H'} I' nx => by
        obtain ⟨m', hm, w'⟩ := hNx H' nx
        have pin' : ∀ b ∈ fp, ∀ o, s7.heap.get? b = some o -> s'.heap.get? b = some o /\ H' b = none := fun b hb o e =>
          let z := I'.pin (b, o) (List.mem_append_right _ (List.mem_append_right _ (mem_pinsAt hb e)))
          ⟨z.1, z.2.1⟩
        have hl : (wipe σ (own.map (·.2))).length = σ8.length := by rw [<- hw8, wipe_length]
        refine ⟨m', hm, i + 1, H', (I'.unpinned (pins := [])).weak hl (fun j v e => ?_), T.keep _ _ _ st7 fun b hb o e => (pin' b hb o e).1, fun b hb => ?_, w'⟩
        · rw [<- hw8] at e;exact (wipe_some e).1
        · obtain ⟨o, e, _⟩ := T.obj _ _ st7 b hb;exact (pin' b hb o e).2
      cases b with
      | false =>
        simp only [Bool.false_eq_true, if_false] at q9 ⊢;exact fin I9 q9
      | true =>
        simp only [if_true] at q9 ⊢;refine thnF (pe _ s9 σ8 H9 _ I9 q9) fun z s10 ⟨yv, H10, I10, r10, acc, hD10, hz10, nx⟩ => ?_
        exact app_ok (X := X.blk s3 H3 scope ce fp) I10 hD10 hz10 r10 fun s11 I11 => fin I11 nx
  exact codeAny_compStart_list loop (T.self X.A 0 _ _ _ st4 loop)
theorem pe_lc {elt tg iter : Expr} {ifs : List Expr} {scope : Scope} {own : List (Str × Nat)} {pos : Pos} {wi : TI} {g : TG} {tt : TT} {te : TE} (hc : X.calm = true) (hN : X.N.Nodup) (hi : PI X tg iter wi) (ok : BlkOk X.N X.env.scope scope own)
    (hg : ∀ (s : Shared) (H : Hp) (C : Addr) (cl : List (Str × Addr)) (fp : List Addr), PG (X.blk s H scope (compEnvC scope cl C X.env) fp) tg g) (ht : ∀ (s : Shared) (H : Hp) (C : Addr) (cl : List (Str × Addr)) (fp : List Addr), PTs (X.blk s H scope (compEnvC scope cl C X.env) fp) ifs tt)
    (he : ∀ (s : Shared) (H : Hp) (C : Addr) (cl : List (Str × Addr)) (fp : List Addr), PE (X.blk s H scope (compEnvC scope cl C X.env) fp) elt te) (hs : ∀ x, foldedSetIterable iter X.env x = pure x := by intro _; rfl) :
    PE X (.ListComp elt [⟨tg, iter, ifs, 0⟩] scope pos) (tLc wi g tt te (own.map (·.2))) := by
  intro pins s σ H Q I h;rw [eval_ListComp];refine lc_core hc hN I hi ok hg ht he hs h fun D C s' m H' I' q hn f => ⟨m, hn, fun h'' sb => ?_⟩
  obtain ⟨f0, f1, f2, f3, f4, f5⟩ := f;exact ⟨.ref D, H', I'.turned (t' := s'.toks) (fun b o hb e => (sb.2 b hb).trans e) f0 f1 f3 f4 f5, rfl, q⟩
theorem ps_setLc {i : Nat} {y : Str} {py : Pos} {elt tg iter : Expr} {ifs : List Expr} {scope : Scope} {own : List (Str × Nat)} {pos spos : Pos} {wi : TI} {g : TG} {tt : TT} {te : TE} (hc : X.calm = true) (hN : X.N.Nodup) (hy : X.N[i]? = some y) (hyl : X.env.scope.names.lookup y = some .local)
    (hsw : swapsWith (.ListComp elt [⟨tg, iter, ifs, 0⟩] scope pos) (some (.Name y py)) spos.line X.env = pure true) (hi : PI X tg iter wi) (ok : BlkOk X.N X.env.scope scope own)
    (hg : ∀ (s : Shared) (H : Hp) (C : Addr) (cl : List (Str × Addr)) (fp : List Addr), PG (X.blk s H scope (compEnvC scope cl C X.env) fp) tg g) (ht : ∀ (s : Shared) (H : Hp) (C : Addr) (cl : List (Str × Addr)) (fp : List Addr), PTs (X.blk s H scope (compEnvC scope cl C X.env) fp) ifs tt)
    (he : ∀ (s : Shared) (H : Hp) (C : Addr) (cl : List (Str × Addr)) (fp : List Addr), PE (X.blk s H scope (compEnvC scope cl C X.env) fp) elt te) (hs : ∀ x, foldedSetIterable iter X.env x = pure x := by intro _; rfl) :
    PS X (.Assign [.Name y py] (.ListComp elt [⟨tg, iter, ifs, 0⟩] scope pos) spos) (tAsg (tLc wi g tt te (own.map (·.2))) (gName i)) := by
  intro pins s σ H D I h;rw [exec_Assign_Name_used _ _ _ _ hsw];refine wpAny_bind (wpAny_standAt (wpAny_bind ?_));show wpAny _ X.A (do let _ <- comprehension (.ListComp elt [⟨tg, iter, ifs, 0⟩] scope pos) scope X.env (firstIterPos [⟨tg, iter, ifs, 0⟩] pos) (newList []) false (eval iter X.env) (some (assign (.Name y py) X.env))) _ _ s;have h : tLc wi g tt te (own.map (·.2)) σ H (fun x H1 => gName i x σ H1 D.nx) := h;refine wpAny_bind (thn (lc_core (Qf := fun _ s' => SP X pins D .next s') hc hN I hi ok hg ht he hs h fun L C s' m H' I' q hn f => ?_) fun _ s' hq => wpAny_pure (wpAny_pure hq));show wpAny _ _ (assign (.Name y py) X.env (.ref L)) _ _ _;refine wpAny_assign_Name (store_ok2 (v := V.ref L) I' hN hy (.inl hyl) rfl (fun s2 I2 ⟨a, sb, ha⟩ => ?_) (.inr hyl));obtain ⟨f0, f1, f2, f3, f4, f5⟩ := f
  have haC : C ≠ a := by
    rcases ha with z | z
    · rw [z]; exact f1
    · exact fun e => f4 y a z e.symm
  refine ⟨m, hn.sameBut sb haC, fun h3 sb3 => ?_⟩;exact ⟨_, H', I2.turned (t' := s2.toks) (fun b o hb e => (sb3.2 b hb).trans e) f0 f1 f3 f4 f5, q⟩
theorem sw_true {elt : Expr} {gs : List Comprehension} {scope : Scope} {pos py : Pos} {y : Str} {l : Nat} {env : Env} (hk : env.scope.kind = .function) (hy : env.scope.names.lookup y = some .local) (hl : (py.line == pos.line) = true)
    (ha : (scope.names.any fun (n, k) => n == y && (k == .local || k == .cell)) = false) : swapsWith (.ListComp elt gs scope pos) (some (.Name y py)) l env = pure true := by
  have ky : env.kindOf y = some .local := hy;have hb : env.blockKind = .function := by unfold Env.blockKind; rw [hk]; rfl
  unfold swapsWith;simp only [hb, ky, ha, Expr.pos, hl];rfl
end
theorem lc_list {K : PySem.W.Frag} {a : Addr} {xs : List V} {g : TG} {tt : TT} {te : TE} {vs : List Nat} {σ : St} {H1 : Hp} {D : Addr} {Qd : Hp -> Prop} (Pv : Nat -> Hp -> Prop) (h0 : Pv 0 (upd H1 D (.lst []))) (hl : ∀ i H, i <= xs.length -> Pv i H -> SqL K H a xs)
    (hs : ∀ i x H, xs[i]? = some x -> Pv i H -> g x (wipe σ vs) H fun σ2 H2 => wipe σ2 vs = wipe σ vs /\ tt σ2 H2 fun b H3 =>
      if b = true then te σ2 H3 fun y H4 => ∃ acc, H4 D = some (.lst acc) /\ acc.length < sizeLine /\ Pv (i + 1) (upd H4 D (.lst (acc ++ [y]))) else Pv (i + 1) H3) (hd : ∀ H, Pv xs.length H -> Qd H) :
    ∃ W : Nat -> Nat -> Hp -> Prop, (∃ m, W 0 m (upd H1 D (.lst []))) /\ ∀ i m H, W i m H ->
      ((Itl K a).stop i H /\ Qd H) \/ ((Itl K a).go i H /\ ∃ Nx : Hp -> Prop, (∀ H', Nx H' -> ∃ m', m' < m /\ W (i + 1) m' H') /\ ∀ x H', (Itl K a).yld i H x H' -> g x (wipe σ vs) H' fun σ2 H2 => wipe σ2 vs = wipe σ vs /\ tt σ2 H2 fun b H3 =>
        if b = true then te σ2 H3 fun y H4 => ∃ acc, H4 D = some (.lst acc) /\ acc.length < sizeLine /\ Nx (upd H4 D (.lst (acc ++ [y]))) else Nx H3) := by
  refine ⟨fun i m H => m = xs.length - i /\ i <= xs.length /\ Pv i H, ⟨xs.length, by simp, Nat.zero_le _, h0⟩, ?_⟩;rintro i m H ⟨rfl, hi, p⟩;have q := hl i H hi p;by_cases hlt : i < xs.length
  · refine .inr ⟨⟨xs, xs[i], q, by simp [hlt]⟩, Pv (i + 1), fun H' p' => ⟨xs.length - (i + 1), by omega, rfl, hlt, p'⟩, fun x H' y => ?_⟩;obtain ⟨e, y⟩ := y;subst e;exact hs i x _ (y xs q) p
  · have e : i = xs.length := by omega
    subst e;exact .inl ⟨⟨xs, q, Nat.le_refl _⟩, hd H p⟩
def blkC (N : List Str) (sc scope : Scope) (own : List (Str × Nat)) : Bool :=
  (match scope.kind with | .function => true | _ => false) && (scope.names.all fun y => decide (scope.names.lookup y.1 = some y.2)) && (own.all fun p => decide (N[p.2]? = some p.1)) &&
    (scope.names.all fun y => match y.2 with
      | .free => (match sc.names.lookup y.1 with | some .cell => true | some .free => true | _ => false)
      | .local => decide (y.1 ∈ own.map (·.1)) || decide (y.1 ∉ N)
      | .cell => decide (y.1 ∈ own.map (·.1)) || decide (y.1 ∉ N)
      | _ => true)
theorem Y8 {N : List Str} {sc scope : Scope} {own : List (Str × Nat)} (h : blkC N sc scope own = true) : BlkOk N sc scope own := by
  unfold blkC at h;simp only [Bool.and_eq_true, List.all_eq_true, decide_eq_true_eq] at h;obtain ⟨⟨⟨h1, h2⟩, h3⟩, h4⟩ := h;refine ⟨?_, h2, h3, fun y hy e => ?_, fun y hy e => ?_⟩
  · split at h1
    · assumption
    · cases h1
  · have q := h4 y hy;simp only [e] at q
    split at q <;> first | exact .inl (by assumption) | exact .inr (by assumption) | cases q
  · have q := h4 y hy;rcases e with e | e <;> (simp only [e, Bool.or_eq_true, decide_eq_true_eq] at q; exact q)
end L2
namespace L2
open PySem PySem.Spec PyProof.Rows
section
variable {prog : Program} {w : World} {A : Around} {R : Result -> Shared -> Prop} {s : Shared} {elt t0 i0 t1 i1 : Expr} {ifs0 ifs1 : List Expr} {scope : Scope} {pos : Pos} {it acc : Value} {env : Env}
end
section
variable {X : Cx}
end
end L2
namespace L2
open PySem PySem.Spec PyProof.Rows
section
variable {κ : Type} [DecidableEq κ]
def valV (kvs : List (κ × V)) (k : κ) : Option V := (kvs.find? fun kv => decide (kv.1 = k)).map (·.2)
def putK (kvs : List (κ × V)) (k : κ) (v : V) : List (κ × V) :=
  if (kvs.any fun kv => decide (kv.1 = k)) = true then kvs.map (fun kv => if kv.1 = k then (kv.1, v) else kv) else kvs ++ [(k, v)]
def dropK (kvs : List (κ × V)) (k : κ) : List (κ × V) := kvs.filter fun kv => decide (kv.1 ≠ k)
theorem valV_pos {p : κ × V} {r : List (κ × V)} {k : κ} (e : p.1 = k) : valV (p :: r) k = some p.2 := by simp [valV, List.find?_cons, e]
theorem valV_neg {p : κ × V} {r : List (κ × V)} {k : κ} (e : ¬ p.1 = k) : valV (p :: r) k = valV r k := by simp [valV, List.find?_cons, e]
theorem valV_any (k : κ) : ∀ kvs : List (κ × V), (kvs.any fun kv => decide (kv.1 = k)) = (valV kvs k).isSome
  | [] => rfl
  | p :: r => by
    rw [List.any_cons];by_cases e : p.1 = k
    · simp only [valV_pos e, decide_eq_true e, Bool.true_or, Option.isSome_some]
    · rw [valV_neg e, decide_eq_false e, Bool.false_or]; exact valV_any k r
theorem length_putK (kvs : List (κ × V)) (k : κ) (v : V) : (putK kvs k v).length <= kvs.length + 1 := by
  unfold putK
  split
  · rw [List.length_map]; omega
  · rw [List.length_append, List.length_cons, List.length_nil]; omega
theorem putK_new {kvs : List (κ × V)} {k : κ} (v : V) (h : valV kvs k = none) : putK kvs k v = kvs ++ [(k, v)] := by
  unfold putK;rw [valV_any, h];exact if_neg (by decide)
theorem RelO.isSome_eq {o : Option V} {u : Option Value} (r : RelO o u) : o.isSome = u.isSome := by
  cases o with
  | none => cases u with
    | none => rfl
    | some _ => exact (show False from r).elim
  | some _ => cases u with
    | none => exact (show False from r).elim
    | some _ => rfl
theorem RelO.getD {o : Option V} {u : Option Value} {d : V} {d' : Value} (r : RelO o u) (rd : RelV d d') : RelV (o.getD d) (u.getD d') := by
  cases o with
  | none => cases u with
    | none => exact rd
    | some _ => exact (show False from r).elim
  | some _ => cases u with
    | none => exact (show False from r).elim
    | some _ => exact r
theorem KV.val {kvs : List (κ × V)} {vs : List (κ × Value)} (r : KV kvs vs) (k : κ) : RelO (valV kvs k) (valueAt vs k) := by
  unfold KV at r
  induction r with
  | nil => exact True.intro
  | @cons p q ps qs h t ih =>
    obtain ⟨h1, h2⟩ := h;by_cases e : p.1 = k
    · have e' : q.1 = k := h1.symm.trans e;have b : valueAt (q :: qs) k = some q.2 := by simp [valueAt, List.find?_cons, e']
      rw [valV_pos e, b]; exact h2
    · have e' : ¬ q.1 = k := fun z => e (h1.trans z)
      have b : valueAt (q :: qs) k = valueAt qs k := by simp [valueAt, List.find?_cons, e']
      rw [valV_neg e, b]; exact ih
theorem KV.any {kvs : List (κ × V)} {vs : List (κ × Value)} (r : KV kvs vs) (k : κ) : (kvs.any fun kv => decide (kv.1 = k)) = vs.any fun kv => decide (kv.1 = k) := by
  unfold KV at r
  induction r with
  | nil => rfl
  | cons h t ih => rw [List.any_cons, List.any_cons, ih, h.1]
theorem KV.repl {kvs : List (κ × V)} {vs : List (κ × Value)} (r : KV kvs vs) (k : κ) {y : V} {u : Value} (ry : RelV y u) :
    KV (kvs.map fun kv => if kv.1 = k then (kv.1, y) else kv) (vs.map fun kv => if kv.1 = k then (kv.1, u) else kv) := by
  unfold KV at r ⊢
  induction r with
  | nil => exact .nil
  | @cons p q ps qs h t ih =>
    rw [List.map_cons, List.map_cons];refine .cons ?_ ih;obtain ⟨h1, h2⟩ := h;by_cases e : p.1 = k
    · rw [if_pos e, if_pos (h1.symm.trans e)]; exact ⟨h1, ry⟩
    · rw [if_neg e, if_neg (fun z => e (h1.trans z))]; exact ⟨h1, h2⟩
theorem KV.put {kvs : List (κ × V)} {vs : List (κ × Value)} (r : KV kvs vs) (k : κ) {y : V} {u : Value} (ry : RelV y u) : KV (putK kvs k y) (stored vs k u) := by
  unfold putK stored;rw [r.any k];by_cases e : (vs.any fun kv => decide (kv.1 = k)) = true
  · rw [if_pos e, if_pos e]; exact r.repl k ry
  · rw [if_neg e, if_neg e]; exact Paired.snoc r ⟨rfl, ry⟩
theorem KV.drop {kvs : List (κ × V)} {vs : List (κ × Value)} (r : KV kvs vs) (k : κ) : KV (dropK kvs k) (without vs k) := by
  unfold KV at r ⊢;unfold dropK without
  induction r with
  | nil => exact .nil
  | @cons p q ps qs h t ih =>
    obtain ⟨h1, h2⟩ := h;rw [List.filter_cons, List.filter_cons];by_cases e : p.1 = k
    · have a : ¬ decide (p.1 ≠ k) = true := by simp [e]
      have b : ¬ decide (q.1 ≠ k) = true := by simp [h1.symm.trans e]
      rw [if_neg a, if_neg b]; exact ih
    · have e' : ¬ q.1 = k := fun z => e (h1.trans z)
      have a : decide (p.1 ≠ k) = true := by simp [e]
      have b : decide (q.1 ≠ k) = true := by simp [e']
      rw [if_pos a, if_pos b]; exact .cons ⟨h1, h2⟩ ih
theorem KV.keys {kvs : List (κ × V)} {vs : List (κ × Value)} (r : KV kvs vs) : kvs.map (·.1) = vs.map (·.1) := by
  unfold KV at r
  induction r with
  | nil => rfl
  | cons h t ih => rw [List.map_cons, List.map_cons, ih, h.1]
theorem KV.length {kvs : List (κ × V)} {vs : List (κ × Value)} (r : KV kvs vs) : kvs.length = vs.length := Paired.length r
end
theorem kV_is {P : Program} {w : World} {k : Key} {u : Value} (r : RelV (kV k) u) : (x4 P w).is k u = true := by
  cases k with
  | inl i => obtain ⟨t, e⟩ := (show ∃ t, u = Value.int i t from r); subst e; exact Z4 P w i t
  | inr x => obtain ⟨t, e⟩ := (show ∃ t, u = Value.str x t from r); subst e; exact mixKind_str P w x t
theorem items_are {P : Program} {w : World} : ∀ {ks : List Key} {us : List Value}, Vals (ks.map kV) us -> ItemsAre (x4 P w) ks us
  | [], _, r => by rw [List.map_nil] at r; cases r; exact .nil
  | k :: ks, _, r => by
    rw [List.map_cons] at r;cases r with
    | cons h t => exact .cons (kV_is h) (items_are t)
abbrev KT (H : Hp) : List (List Key × V) -> List (List Key × Addr × Value) -> Prop := Paired fun p q => p.1 = q.1 /\ H q.2.1 = some (.tup (p.1.map kV)) /\ RelV p.2 q.2.2
theorem KT.val {H : Hp} {kvs : List (List Key × V)} {xs : List (List Key × Addr × Value)} (r : KT H kvs xs) (k : List Key) : RelO (valV kvs k) ((atKey xs k).map (·.2)) := by
  induction r with
  | nil => exact True.intro
  | @cons p q ps qs h t ih =>
    obtain ⟨h1, _, h2⟩ := h;by_cases e : p.1 = k
    · have e' : q.1 = k := h1.symm.trans e;have b : atKey (q :: qs) k = some q.2 := by simp [atKey, List.find?_cons, e']
      rw [valV_pos e, b]; exact h2
    · have e' : ¬ q.1 = k := fun z => e (h1.trans z)
      have b : atKey (q :: qs) k = atKey qs k := by simp [atKey, List.find?_cons, e']
      rw [valV_neg e, b]; exact ih
theorem KT.repl {H : Hp} {kvs : List (List Key × V)} {xs : List (List Key × Addr × Value)} (r : KT H kvs xs) (k : List Key) {y : V} {u : Value} (ry : RelV y u) :
    KT H (kvs.map fun kv => if kv.1 = k then (kv.1, y) else kv) (xs.map (putAt k u)) := by
  induction r with
  | nil => exact .nil
  | @cons p q ps qs h t ih =>
    rw [List.map_cons, List.map_cons];refine .cons ?_ ih;obtain ⟨h1, h2, h3⟩ := h;unfold putAt;by_cases e : p.1 = k
    · rw [if_pos e, if_pos (h1.symm.trans e)]; exact ⟨h1, h2, ry⟩
    · rw [if_neg e, if_neg (fun z => e (h1.trans z))]; exact ⟨h1, h2, h3⟩
theorem KT.put {H : Hp} {kvs : List (List Key × V)} {xs : List (List Key × Addr × Value)} (r : KT H kvs xs) (k : List Key) {b : Addr} {y : V} {u : Value} (hb : H b = some (.tup (k.map kV))) (ry : RelV y u) :
    KT H (putK kvs k y) (storedH xs k b u) := by
  have e : (kvs.any fun kv => decide (kv.1 = k)) = (atKey xs k).isSome := by
    rw [valV_any, (r.val k).isSome_eq, Option.isSome_map]
  unfold putK storedH;rw [e];by_cases q : (atKey xs k).isSome = true
  · rw [if_pos q, if_pos q]; exact r.repl k ry
  · rw [if_neg q, if_neg q]; exact Paired.snoc r ⟨rfl, hb, ry⟩
theorem KT.keeps {H H' : Hp} {kvs : List (List Key × V)} {xs : List (List Key × Addr × Value)} (r : KT H kvs xs) (ht : ∀ b ys, H b = some (.tup ys) -> H' b = some (.tup ys)) : KT H' kvs xs :=
  Paired.mapP r fun _ _ z => ⟨z.1, ht _ _ z.2.1, z.2.2⟩
section
variable {P : Program} {w : World} {H : Hp} {h : Heap} {a : Addr}
theorem rd_of {u : HO} (ok : HOk P w H h) (e : Rd H a u) : Q7 P w H h a u := e.ok ok
theorem dk_rd {kvs : List (Key × V)} (ok : HOk P w H h) (e : Rd H a (.dK kvs)) : kvs.length <= sizeLine /\ (a == sysModules) = false /\ ∃ vs, KV kvs vs /\ h.DictOf (x4 P w) a vs :=
  show Q7 P w H h a (.dK kvs) from rd_of ok e
theorem dk_of {kvs : List (Key × V)} (ok : HOk P w H h) (e : H a = some (.dK kvs)) : kvs.length <= sizeLine /\ (a == sysModules) = false /\ ∃ vs, KV kvs vs /\ h.DictOf (x4 P w) a vs := dk_rd ok (.inl e)
theorem key_of {ks : List Key} (ok : HOk P w H h) (e : H a = some (.tup (ks.map kV))) : (tupleKind (x4 P w)).is h ks a := by
  obtain ⟨_, its, r, o, h1, h2, n, h3⟩ := (show Q7 P w H h a (.tup (ks.map kV)) from ok a _ e);exact ⟨o, its.toArray, n, h1, h2, h3, by simpa using items_are r⟩
theorem dt_rd {kvs : List (List Key × V)} (ok : HOk P w H h) (e : Rd H a (.dT kvs)) : kvs.length <= sizeLine /\ (a == sysModules) = false /\
    ∃ xs, KT H kvs xs /\ h.DictOfH (tupleKind (x4 P w)) a xs := by
  obtain ⟨z, y, xs, r, o, es, ep, h1, h2, h3, h4, h5⟩ := (show Q7 P w H h a (.dT kvs) from rd_of ok e);refine ⟨z, y, xs, r, o, es, ep, h1, h2, h3, h4, fun x hx => ?_, h5⟩
  have all : ∀ {l : List (List Key × V)} {m : List (List Key × Addr × Value)}, KT H l m -> ∀ x ∈ m, (tupleKind (x4 P w)).is h x.1 x.2.1 := by
    intro l m q
    induction q with
    | nil => intro x hx; exact nomatch hx
    | @cons p q ps qs hq t ih =>
      intro x hx;rcases List.mem_cons.mp hx with e | hx
      · subst e;exact key_of ok (by rw [<- hq.1]; exact hq.2.1)
      · exact ih x hx
  exact all r x hx
theorem dt_of {kvs : List (List Key × V)} (ok : HOk P w H h) (e : H a = some (.dT kvs)) : kvs.length <= sizeLine /\ (a == sysModules) = false /\
    ∃ xs, KT H kvs xs /\ h.DictOfH (tupleKind (x4 P w)) a xs := dt_rd ok (.inl e)
end
def DGet (H : Hp) (a : Addr) (y : V) (r : Option V) : Prop :=
  (∃ kvs k, Rd H a (.dK kvs) /\ y = kV k /\ r = valV kvs k) \/ ∃ kvs k b, Rd H a (.dT kvs) /\ y = .ref b /\ H b = some (.tup (k.map kV)) /\ r = valV kvs k
def DPut (H : Hp) (a : Addr) (y v : V) (H' : Hp) : Prop :=
  (∃ kvs k, H a = some (.dK kvs) /\ y = kV k /\ kvs.length < sizeLine /\ H' = upd H a (.dK (putK kvs k v))) \/
  ∃ kvs k b, H a = some (.dT kvs) /\ y = .ref b /\ H b = some (.tup (k.map kV)) /\ kvs.length < sizeLine /\ H' = upd H a (.dT (putK kvs k v))
theorem DGet.t {H : Hp} {a b : Addr} {kvs : List (List Key × V)} {k : List Key} (e : H a = some (.dT kvs)) (eb : H b = some (.tup (k.map kV))) : DGet H a (.ref b) (valV kvs k) := .inr ⟨kvs, k, b, .inl e, rfl, eb, rfl⟩
theorem DPut.t {H : Hp} {a b : Addr} {kvs : List (List Key × V)} {k : List Key} {v : V} (e : H a = some (.dT kvs)) (eb : H b = some (.tup (k.map kV))) (hl : kvs.length < sizeLine) :
    DPut H a (.ref b) v (upd H a (.dT (putK kvs k v))) := .inr ⟨kvs, k, b, e, rfl, eb, hl, rfl⟩
section
variable {X : Cx} {pins : List (Addr × Obj)} {σ : St} {H : Hp} {s : Shared} {a : Addr} {y v : V} {u r : Value} {o : Option V} {A : Around} {E : Value -> Shared -> Prop}
theorem Inv.big (I : Inv X pins σ H s) : sysModules < s.heap.objs.size := by
  have h : mainGlobals < s.heap.objs.size := (I.mod.glob.keeps I.bk).lt;exact Nat.lt_trans (by decide) h
theorem d_in {Q : Value -> Shared -> Prop} (hu : A.units + 1 < cLine) (I : Inv X pins σ H s) (g : DGet H a y o) (ry : RelV y u) (h : ∀ s', Inv X pins σ H s' -> Q (.bool o.isSome) s') :
    wpAny (model X.prog X.w) A (compareOp .In u (.ref a)) Q E s := by
  rcases g with ⟨kvs, k, e, ey, l⟩ | ⟨kvs, k, b, e, ey, eb, l⟩
  · subst ey;obtain ⟨z, hd, vs, rel, dd⟩ := dk_rd I.hok e;refine wpAny_in_of (kV_is ry) hd dd.mapOf ?_;rw [<- (rel.val k).isSome_eq, <- l];exact h _ (I.tok _)
  · subst ey;cases (show u = Value.ref b from ry);obtain ⟨z, hd, xs, rel, dd⟩ := dt_rd I.hok e;refine wpAny_in_heap (tupleKind_room_in1 hu) (key_of I.hok eb) hd dd ?_;have q := (rel.val k).isSome_eq;rw [Option.isSome_map] at q;rw [<- q, <- l];exact h _ (I.tok _)
theorem d_write {h' : Heap} {t' : Nat} {ob : HO} (I : Inv X pins σ H s) (mu : Mut (H a)) (hs : Heap.SameBut a s.heap h') (he : ∃ q, h'.get? a = some q) (new : Q7 X.prog X.w (upd H a ob) h' a ob) :
    Inv X pins σ (upd H a ob) { s with heap := h', toks := t' } :=
  I.write (x := a) (e := a) mu (.inl rfl) (fun b q hb z => (hs.2 b hb).trans z) he new
theorem dk_new {P : Program} {w : World} {H' : Hp} {h' : Heap} {kvs : List (Key × V)} {vs : List (Key × Value)} (z : kvs.length <= sizeLine) (hd : (a == sysModules) = false) (rel : KV kvs vs) (dd : h'.DictOf (x4 P w) a vs) :
    Q7 P w H' h' a (.dK kvs) := ⟨z, hd, vs, rel, dd⟩
theorem d_setItem {H' : Hp} {Q : Unit -> Shared -> Prop} (hu : A.units + 1 < cLine) (I : Inv X pins σ H s) (g : DPut H a y v H') (ry : RelV y u) (rv : RelV v r) (h : ∀ s', Inv X pins σ H' s' -> Q () s') :
    wpAny (model X.prog X.w) A (setItem (.ref a) u r) Q E s := by
  rcases g with ⟨kvs, k, e, ey, l, eH⟩ | ⟨kvs, k, b, e, ey, eb, l, eH⟩
  · subst ey eH;obtain ⟨z, hd, vs, rel, dd⟩ := dk_of I.hok e;have hz : vs.length <= sizeLine := by rw [<- rel.length]; exact z
    have hl : (putK kvs k v).length <= sizeLine := by have := length_putK kvs k v; omega
    refine wpAny_setItem_pairs (hsz := hz) (kV_is ry) dd fun h' dd' hs => h _ ?_
    have he : ∃ q, h'.get? a = some q := let ⟨q, _, _, hq, _⟩ := dd'; ⟨q, hq⟩;exact d_write I (by rw [e]; exact True.intro) hs he (dk_new hl hd (rel.put k rv) dd')
  · subst ey eH;cases (show u = Value.ref b from ry);obtain ⟨z, hd, xs, rel, dd⟩ := dt_of I.hok e;have hz : xs.length <= sizeLine := by rw [<- Paired.length rel]; exact z
    have hl : (putK kvs k v).length <= sizeLine := by have := length_putK kvs k v; omega
    refine wpAny_setItem_heap (hsz := hz) (tupleKind_room_in1 hu) (key_of I.hok eb) dd fun h' dd' hs => h _ ?_
    obtain ⟨q, es, ep, hq, h2, h3, h4, _, h5⟩ := dd';refine d_write I (by rw [e]; exact True.intro) hs ⟨q, hq⟩ ⟨hl, hd, _, (rel.put k eb rv).keeps fun c ys ec => ?_, q, es, ep, hq, h2, h3, h4, h5⟩;rw [y9 (ne_of ec e (fun z => nomatch z))];exact ec
end
section
variable {X : Cx} {pins : List (Addr × Obj)} {σ : St} {H : Hp} {s : Shared} {a : Addr} {kvs : List (Key × V)} {k : Key} {u : Value} {A : Around} {E : Value -> Shared -> Prop}
end
def NoSl (i : Expr) : Prop := ∀ ov iv, subscripted i false ov iv = operate [ov, iv] (getItem ov iv)
theorem subD_of {prog : Program} {w : World} {A : Around} {E : Value -> Shared -> Prop} {s : Shared} {env : Env} {value slice : Expr} {pos : Pos} {T id : String} {Q : Value -> Shared -> Prop}
    (hl : typeLookup (.type T) "__getitem__" = pure (some (.builtin id))) (hs : NoSl slice)
    (h : wpAny (model prog w) A (eval value env) (fun o s₁ => wpAny (model prog w) A (eval slice env) (fun i s₂ => s₂.TypeIs o T /\ wpAny (model prog w) A (getItem o i) Q E s₂) E s₁) E s) :
    wpAny (model prog w) A (eval (.Subscript value slice pos) env) Q E s := by
  refine Subscript_ (wpAny_mono h (fun o s₁ h₁ => wpAny_mono h₁ (fun i s₂ h₂ => ?_) fun _ _ x => x) fun _ _ x => x);obtain ⟨hT, h₂⟩ := h₂;unfold subscriptTail;refine wpAny_bind ?_;rw [getitemInPython_of_ne hT.not_modules];refine wpAny_bind (wpAny_specialOf hT hl ?_)
  have fin : wpAny (model prog w) A (subscripted slice false o i) (fun r s₃ => wpAny (model prog w) A (letTemporaryGo value o r >>= fun _ => pure r) Q E s₃) E s₂ := by
    rw [hs o i];exact wpAny_operating (wpAny_mono h₂ (fun r s₃ h₃ => wpAny_bind (wpAny_letTemporaryGo (wpAny_pure h₃))) fun _ _ x => x)
  first
    | exact wpAny_pure (wpAny_bind fin)
    | exact wpAny_bind (wpAny_pure (wpAny_bind fin))
    | exact wpAny_bind fin
def tDIn (ty td : TE) : TE := fun σ H Q => ty σ H fun y H1 => td σ H1 fun x H2 => ∃ a o, x = .ref a /\ DGet H2 a y o /\ Q (.bl o.isSome) H2
def sDPut (td ty tv : TE) : TS := fun D σ H => tv σ H fun v H1 => td σ H1 fun x H2 => ty σ H2 fun y H3 => ∃ a H4, x = .ref a /\ DPut H3 a y v H4 /\ D.nx σ H4
section
variable {X : Cx} {o i e value : Expr} {pos pos' tpos : Pos} {td ty tv : TE}
theorem pc_din (hu : X.A.units + 1 < cLine) (hi : PE X i ty) (ho : PE X o td) : PC X .In i o (tDIn ty td) := by
  intro pins s σ H Q I h;refine thn (hi pins s σ H _ I h) fun iv s1 ⟨y, H1, I1, ry, q1⟩ => thn (ho pins s1 σ H1 _ I1 q1) fun u s2 ⟨x, H2, I2, rx, a, ov, ex, g, q2⟩ => ?_
  subst ex;obtain rfl : u = Value.ref a := rx;exact d_in hu I2 g ry fun s3 I3 => ⟨.bl ov.isSome, H2, I3, rfl, q2⟩
theorem ps_dput (hu : X.A.units + 1 < cLine) (ho : PE X o td) (hi : PE X i ty) (hv : PE X value tv) (hs : swapsWith value (some (.Subscript o i pos')) pos.line X.env = pure false) :
    PS X (.Assign [.Subscript o i pos'] value pos) (sDPut td ty tv) := by
  intro pins s σ H D I h;refine wpAny_Assign_Subscript (thn (hv pins s σ H _ I h) fun r s1 ⟨v, H1, I1, rv, q1⟩ => thn (ho pins s1 σ H1 _ I1 q1) fun u s2 ⟨x, H2, I2, rx, q2⟩ => thn (hi pins s2 σ H2 _ I2 q2) fun iv s3 ⟨y, H3, I3, ry, a, H4, ex, g, q3⟩ => ?_) hs;subst ex;obtain rfl : u = Value.ref a := rx;exact d_setItem hu I3 g ry rv fun s4 I4 => ⟨σ, H4, I4, q3⟩
end
theorem dt_empty {P : Program} {w : World} {H : Hp} (h : Heap) (hb : sysModules < h.objs.size) : Q7 P w H (h.push { cls := .type "dict", data := .dict #[] }) h.objs.size (.dT []) :=
  ⟨Nat.zero_le _, beq_eq_false_iff_ne.mpr (Ne.symm (Nat.ne_of_lt hb)), [], .nil, _, #[], 0, Heap.get?_push_size _ rfl, ⟨rfl, rfl, rfl⟩, rfl, rfl, List.nodup_nil⟩
def tDNewT : TE := fun _ H Q => ∀ p, H p = none -> Q (.ref p) (upd H p (.dT []))
section
variable {X : Cx} {pos : Pos}
theorem pe_dnewT : PE X (.Dict [] [] pos) tDNewT := fun pins s σ H Q I h =>
  wpAny_Dict_empty ⟨.ref s.heap.objs.size, _, I.laid (a := s.heap.objs.size) (o := .dT []) (t' := s.toks) (fun _ _ q => Heap.get?_push_of_some _ q) (Nat.le_refl _) (dt_empty s.heap I.big), rfl, h _ (I.hok.fresh (Nat.le_refl _))⟩
end
abbrev VV : List (V × V) -> List (Value × Value) -> Prop := Paired fun p q => RelV p.1 q.1 /\ RelV p.2 q.2
structure M1 (X : Cx) (o : Expr) (m : Str) (apos : Pos) (e : Expr) (cpos : Pos) : Prop where
  base : attributeBase o m X.env (eval o X.env) = eval o X.env
  few : ((backTo cpos (starEach [e] X.env)).all (fun x => !x.1) && (backToKw cpos (keywordEach [] X.env)).all (fun x => x.1.isSome)
    && decide (([e] : List Expr).length + ([] : List Keyword).length + (if ([] : List Keyword).isEmpty then 0 else 1) < 30)) = true
  line : (apos.endLine == cpos.line) = true
  trees : backTo cpos (starEach [e] X.env) = [(false, eval e X.env)]
structure M2 (X : Cx) (o : Expr) (m : Str) (apos : Pos) (e f : Expr) (cpos : Pos) : Prop where
  base : attributeBase o m X.env (eval o X.env) = eval o X.env
  few : ((backTo cpos (starEach [e, f] X.env)).all (fun x => !x.1) && (backToKw cpos (keywordEach [] X.env)).all (fun x => x.1.isSome)
    && decide (([e, f] : List Expr).length + ([] : List Keyword).length + (if ([] : List Keyword).isEmpty then 0 else 1) < 30)) = true
  line : (apos.endLine == cpos.line) = true
  trees : backTo cpos (starEach [e, f] X.env) = [(false, eval e X.env), (false, eval f X.env)]
def IsD (H : Hp) (a : Addr) : Prop := (∃ kvs, Rd H a (.dK kvs)) \/ ∃ kvs, Rd H a (.dT kvs)
theorem isD_at {X : Cx} {pins : List (Addr × Obj)} {σ : St} {H : Hp} {s : Shared} {a : Addr} (I : Inv X pins σ H s) (d : IsD H a) :
    s.TypeIs (.ref a) "dict" /\ (∀ b, Value.ref a = .ref b -> ∃ ob, s.heap.get? b = some ob /\ ob.dict = none) /\ (a == sysModules) = false := by
  rcases d with ⟨kvs, e⟩ | ⟨kvs, e⟩
  · obtain ⟨_, hd, vs, _, dd⟩ := dk_rd I.hok e;refine ⟨dd.typeIs, fun b q => ?_, hd⟩;cases q;obtain ⟨ob, _, _, h1, h2, _⟩ := dd;exact ⟨ob, h1, h2.2.1⟩
  · obtain ⟨_, hd, xs, _, dd⟩ := dt_rd I.hok e;refine ⟨dd.typeIs, fun b q => ?_, hd⟩;cases q;obtain ⟨ob, _, _, h1, h2, _⟩ := dd;exact ⟨ob, h1, h2.2.1⟩
section
variable {X : Cx} {pins : List (Addr × Obj)} {σ : St} {H : Hp} {s : Shared} {a : Addr} {y d : V} {u r : Value} {o : Option V} {A : Around} {E : Value -> Shared -> Prop}
theorem d_get1 {Q : Value -> Shared -> Prop} (hu : A.units + 1 < cLine) (I : Inv X pins σ H s) (g : DGet H a y o) (ry : RelV y u) (h : ∀ w' s', Inv X pins σ H s' -> RelV (o.getD .non) w' -> Q w' s') :
    wpAny (model X.prog X.w) A (call (.builtin "dict.get") [.ref a, u]) Q E s := by
  rcases g with ⟨kvs, k, e, ey, l⟩ | ⟨kvs, k, b, e, ey, eb, l⟩
  · subst ey;obtain ⟨z, hd, vs, rel, dd⟩ := dk_rd I.hok e;refine call_meetsIn PySem.F.slot_dict_get dd.typeIs PySem.F.entry_dict_get (PySem.F.args_dict_get_2 _ _) (meets_dict_get (x4 X.prog X.w) a (kV_is ry) hd) ⟨_, dd.mapOf, h _ _ (I.tok _) ?_⟩;rw [l];exact (rel.val k).getD rfl
  · subst ey;cases (show u = Value.ref b from ry);obtain ⟨z, hd, xs, rel, dd⟩ := dt_rd I.hok e;refine call_meetsIn PySem.F.slot_dict_get dd.typeIs PySem.F.entry_dict_get (PySem.F.args_dict_get_2 _ _) (meetsH_dict_get (tupleKind (x4 X.prog X.w)) a b hd) ⟨tupleKind_room_in1 hu, k, xs, key_of I.hok eb, dd, h _ _ (I.tok _) ?_⟩;rw [l];exact (rel.val k).getD rfl
end
def tDGet1 (td ty : TE) : TE := fun σ H Q => td σ H fun x H1 => ∃ a, x = .ref a /\ IsD H1 a /\ ty σ H1 fun y H2 => ∃ o, DGet H2 a y o /\ Q (o.getD .non) H2
section
variable {X : Cx} {o e f : Expr} {apos cpos : Pos} {td ty tx : TE}
theorem pe_dget1 (hu : X.A.units + 1 < cLine) (ho : PE X o td) (he : PE X e ty) (m : M1 X o "get" apos e cpos) : PE X (.Call (.Attribute o "get" apos) [e] [] cpos) (tDGet1 td ty) := by
  intro pins s σ H Q I h;refine wpAny_Call_method m.base m.few m.line PySem.F.plainAttrs_dict PySem.F.slot_dict_get PySem.F.type_dict_get (thn (ho pins s σ H _ I h) fun u s1 ⟨x, H1, I1, rx, a, ex, d, q1⟩ => ?_);subst ex;obtain rfl : u = Value.ref a := rx;obtain ⟨t1, t2, _⟩ := isD_at I1 d;refine ⟨t1, t2, ?_⟩;rw [m.trees];refine Calls.callWith_builtin rfl (Calls.evalArgs_plain (Calls.spliced_cons (thn (he pins s1 σ H1 _ I1 q1) fun iv s2 ⟨y, H2, I2, ry, ov, g, q2⟩ => Calls.spliced_nil ?_)));exact d_get1 hu I2 g ry fun w' s3 I3 rw' => ⟨_, H2, I3, rw', q2⟩
end
section
variable {X : Cx} {pins : List (Addr × Obj)} {σ : St} {H : Hp} {s : Shared} {a : Addr} {kvs : List (Key × V)} {A : Around} {E : Value -> Shared -> Prop}
end
section
variable {X : Cx} {pins : List (Addr × Obj)} {σ : St} {H : Hp} {s : Shared} {a : Addr} {y : V} {u : Value} {A : Around} {E : Value -> Shared -> Prop}
end
end L2
namespace L2
open PySem PySem.Spec PyProof.Rows
section
variable {prog : Program} {w : World} {A : Around} {E : Value -> Shared -> Prop}
end
section
variable {X : Cx}
end
end L2
namespace L2
open PySem PySem.Spec PyProof.Rows
section
variable {X : Cx} {pins : List (Addr × Obj)} {σ : St} {H : Hp} {s : Shared} {h' : Heap}
theorem Inv.turnedL {t' : Nat} {ch : List Addr} (I : Inv X pins σ H s) (k : ∀ b o, b ∉ ch -> s.heap.get? b = some o -> h'.get? b = some o) (hf : ∀ b ∈ ch, FpOk X pins H b) : Inv X pins σ H { s with heap := h', toks := t' } := by
  have nit : ∀ b u, H b = some u -> b ∉ ch := fun b u e z => by
    have q := (hf b z).1;rw [q] at e; cases e
  refine I.step (g' := s.gens) (d' := s.drawn) (ch := ch) (fun b hb => ⟨(hf b hb).2.2.2.1, (hf b hb).2.1, (hf b hb).2.2.2.2.1, (hf b hb).2.2.2.2.2⟩) (fun b o _ _ hc e _ => k b o hc e) (fun b o _ _ hc e _ => ⟨o.slots, k b o hc e⟩)
    (fun _ _ _ _ n => n) (fun b o hc e => ⟨o, k b o hc e⟩) (fun _ _ e => e) (fun _ _ _ e => e) (fun b ps e => ⟨#[], by rw [e]; simp⟩) (fun m hm => ?_) (fun b u e => ?_) I.bare
  · obtain ⟨o, es, ep, ho, r⟩ := hm;exact ⟨o, es, ep, k _ o (fun z => (hf _ z).2.1 rfl) ho, r⟩
  · refine (I.hok b u e).stay (fun c v hc q => k c v ?_ q) (fun _ q => q) fun _ _ q => q
    rcases hc with z | z
    · rw [z]; exact nit b u e
    · exact nit c _ z
theorem Inv.turnedNew {t' : Nat} {ch : List Addr} {T : Addr} {ob : HO} (I : Inv X pins σ H s) (k : ∀ b o, b ∉ ch -> s.heap.get? b = some o -> h'.get? b = some o) (hf : ∀ b ∈ ch, FpOk X pins H b) (hT : s.heap.objs.size <= T)
    (new : Q7 X.prog X.w (upd H T ob) h' T ob) : Inv X pins σ (upd H T ob) { s with heap := h', toks := t' } := by
  have hn : H T = none := I.hok.fresh hT
  have nit : ∀ b u, H b = some u -> b ∉ ch := fun b u e z => by
    have q := (hf b z).1;rw [q] at e; cases e
  refine I.step (g' := s.gens) (d' := s.drawn) (ch := ch) (fun b hb => ⟨(hf b hb).2.2.2.1, (hf b hb).2.1, (hf b hb).2.2.2.2.1, (hf b hb).2.2.2.2.2⟩) (fun b o _ _ hc e _ => k b o hc e) (fun b o _ _ hc e _ => ⟨o.slots, k b o hc e⟩)
    (fun b o _ e n => ?_) (fun b o hc e => ⟨o, k b o hc e⟩) (fun b xs e => ?_) (fun b o u e => ?_) (fun b ps e => ⟨#[], ?_⟩) (fun m hm => ?_) (fun b u e => ?_) I.bare
  · rw [y9 (Nat.ne_of_lt (Nat.lt_of_lt_of_le (Heap.lt_size e) hT))]; exact n
  · rw [y9 (y4 e hn)]; exact e
  · rw [y9 (y4 e hn)]; exact e
  · rw [y9 (y4 e hn), e]; simp
  · obtain ⟨o, es, ep, ho, r⟩ := hm;exact ⟨o, es, ep, k _ o (fun z => (hf _ z).2.1 rfl) ho, r⟩
  · by_cases hb : b = T
    · subst hb;rw [y1] at e;cases e;exact new
    · rw [y9 hb] at e;refine (I.hok b u e).stay (fun c v hc q => k c v ?_ q) (fun c q => by rw [y9 (y4 q hn)]; exact q) fun c xs q => by rw [y9 (y4 q hn)]; exact q
      rcases hc with z | z
      · rw [z]; exact nit b u e
      · exact nit c _ z
end
section
variable {X : Cx}
theorem pi_one {tg : Expr} {pins : List (Addr × Obj)} {σ : St} {H : Hp} {s : Shared} {R : It -> Hp -> Prop} {J : It} {tn : Nat -> Heap -> Prop} {tk : Nat} (I : Inv X pins σ H s) (o : Obj)
    (T : Turn X.prog X.w X.K tg J [s.heap.objs.size] s.heap.objs.size tn) (st : tn 0 (s.heap.push o)) (q : R J H) : PIE X pins σ tg R (.ref s.heap.objs.size) { s with heap := s.heap.push o, toks := tk } := by
  refine ⟨s.heap.objs.size, [s.heap.objs.size], tn, J, H, rfl, I.kept fun b ob e => Heap.get?_push_of_some _ e, T, st, fun b hb => ?_, q⟩;have e : b = s.heap.objs.size := by simpa using hb
  subst e;exact I.fpOk (Nat.le_refl _) (I.hok.fresh (Nat.le_refl _))
end
def Itc (lo c : Int) (n : Nat) : It := ⟨fun i _ => i < n, fun i H x H' => H' = H /\ x = .int (lo + (i : Nat) * c), fun i _ => n <= i⟩
theorem turn_rangeC {P : Program} {w : World} {K : PySem.W.Frag} {tg : Expr} (it : Addr) (lo c : Int) (n : Nat) : Turn P w K tg (Itc lo c n) [it] it (fun i h => IsRangeIter h it (lo + (i : Nat) * c) ((n : Int) - (i : Nat)) c) where
  mem := by simp
  obj := fun i h st b hb => by
    have e : b = it := by simpa using hb
    subst e;exact ⟨_, st, fun v z => nomatch z⟩
  keep := fun i h h' st k => k it (by simp) _ st
  item := by
    intro X hP hw hK hc i pins s σ H E I hf st hg;subst hP hw hK;obtain ⟨f0, f1, f2, f3, f4, f5⟩ := hf it (by simp);have W := Walks.range (prog := X.prog) (w := X.w) (I.ok.hd hc) it lo c n;refine W.item i s _ _ hg st fun v h' tk hv st' kk => ?_
    obtain ⟨t, rfl⟩ := hv;have I1 : Inv X pins σ H { s with heap := h', toks := tk } := I.turned (fun b o hb e => kk b o (by simpa using hb) e) f0 f1 f3 f4 f5;exact ⟨_, rfl, go_of (s := { s with heap := h', toks := tk }) (n := "range_iterator") st' rfl rfl (by decide) ⟨.int (lo + (i : Nat) * c), H, I1, ⟨t, rfl⟩, ⟨rfl, rfl⟩, st', fun b hb => (hf b hb).1⟩⟩
  done := by
    intro X hP hw hK hc i pins s σ H E I hf st hg;subst hP hw hK;obtain ⟨f0, f1, f2, f3, f4, f5⟩ := hf it (by simp);exact wpAny_pyNext_range_end (I.ok.hd hc) st (by have : n <= i := hg; omega) fun h' eb => ⟨rfl, I.turned (t' := s.toks) (fun b o hb e => eb b o hb e) f0 f1 f3 f4 f5⟩
  self := fun A i s Q E st h => wpAny_pyIter_rangeiter st h
def RgC (i j c : Int) (n : Nat) : Prop := c ≠ 0 /\ c.natAbs < 1073741824 /\ Builtin.Range.small i j c = true /\ Builtin.Range.rangeSize i j c = n
theorem RgC.neg {i j : Int} (ha : -(2 ^ 62) <= i) (ha' : i < 2 ^ 62) (hb : -(2 ^ 62) <= j) (hb' : j < 2 ^ 62) : RgC i j (-1) (i - j).toNat :=
  ⟨by decide, by decide, PySem.W.small_down ha ha' hb hb', PySem.W.rangeSize_downNat i j⟩
def iRng3 (ta : TA) : TI := fun σ H R => ta σ H fun vs H1 => ∃ (i j c : Int) (n : Nat), vs = [.int i, .int j, .int c] /\ RgC i j c n /\ R (Itc i c n) H1
section
variable {X : Cx} {tg : Expr}
theorem pi_range3 {a b c : Expr} {ta : TA} {p pos : Pos} (hg : Gl X "range") (hm : X.mg "range" = none) (ha : PA X [a, b, c] ta)
    (hs : starEach [a, b, c] X.env = (false, eval a X.env) :: starEach [b, c] X.env := by rfl) (hpl : (backTo pos (starEach [b, c] X.env)).any (·.1) = false := by rfl) :
    PI X tg (.Call (.Name "range" p) [a, b, c] [] pos) (iRng3 ta) := by
  intro pins s σ H R I h;refine Call_ (ld_blt I hg hm boot_range (PyProof.Rows.callWith_type1 (thn (ha pos pins s σ H _ I h) fun us s1 ⟨vs, H1, I1, r1, q1⟩ => ?_) hs hpl));obtain ⟨i, j, k, n, e, ⟨c0, c1, c2, c3⟩, q⟩ := q1;subst e;cases r1 with
  | cons r rr =>
    cases rr with
    | cons r' rr =>
      cases rr with
      | cons r'' rr =>
        cases rr;obtain ⟨t, rfl⟩ := r;obtain ⟨t', rfl⟩ := r';obtain ⟨t'', rfl⟩ := r'';refine call_range_3 c0 ?_ (.inl (PyProof.noPylong_small c1));refine wpAny_pyIter_range (IsRange.new ..) c2 ?_;have I2 : Inv X pins σ H1 { s1 with heap := s1.heap.push { cls := .type "range", data := .fields #[.int i t, .int j t', .int k t''] } } := I1.kept (t' := s1.toks) fun b o e => Heap.get?_push_of_some _ e
        refine pi_one (tk := s1.toks) I2 _ (turn_rangeC _ i k n) ?_ q;have e1 : i + ((0 : Nat) : Int) * k = i := by simp
        have e2 : (n : Int) - ((0 : Nat) : Int) = Builtin.Range.rangeSize i j k := by rw [c3]; simp
        show IsRangeIter _ _ (i + ((0 : Nat) : Int) * k) ((n : Int) - ((0 : Nat) : Int)) k;rw [e1, e2];exact Heap.get?_push_size _ rfl
end
theorem for_rangeC {lo c : Int} {n : Nat} {g : TG} {tb : TS} {D : Ends} {σ : St} {H : Hp} (Pv : Nat -> St -> Hp -> Prop) (h0 : Pv 0 σ H)
    (hs : ∀ i σ H, i < n -> Pv i σ H -> g (.int (lo + (i : Nat) * c)) σ H fun σ2 H2 => tb { D with nx := Pv (i + 1), ct := Pv (i + 1), bk := D.nx } σ2 H2) (hd : ∀ σ H, Pv n σ H -> D.nx σ H) :
    ∃ W : Nat -> Nat -> St -> Hp -> Prop, (∃ m, W 0 m σ H) /\ ∀ i m σ H, W i m σ H ->
      ((Itc lo c n).stop i H /\ D.nx σ H) \/ ((Itc lo c n).go i H /\ ∃ N : St -> Hp -> Prop, (∀ σ' H', N σ' H' -> ∃ m', m' < m /\ W (i + 1) m' σ' H') /\ ∀ x H', (Itc lo c n).yld i H x H' -> g x σ H' fun σ2 H2 => tb { D with nx := N, ct := N, bk := D.nx } σ2 H2) := by
  refine ⟨fun i m σ H => m = n - i /\ i <= n /\ Pv i σ H, ⟨n, by simp, Nat.zero_le _, h0⟩, ?_⟩;rintro i m σ H ⟨rfl, hi, p⟩;by_cases hlt : i < n
  · refine .inr ⟨hlt, Pv (i + 1), fun σ' H' p' => ⟨n - (i + 1), by omega, rfl, hlt, p'⟩, fun x H' y => ?_⟩;obtain ⟨e, y⟩ := y;subst e y;exact hs i σ _ hlt p
  · have e : i = n := by omega
    subst e;exact .inl ⟨Nat.le_refl _, hd σ H p⟩
section
variable {X : Cx} {tg : Expr}
end
def Its (x : Str) : It := ⟨fun i _ => i < x.cps.size, fun i H v H' => H' = H /\ ∃ c, x.cps[i]? = some c /\ v = .str ⟨#[c]⟩, fun i _ => x.cps.size <= i⟩
theorem turn_str {P : Program} {w : World} {K : PySem.W.Frag} {tg : Expr} (it : Addr) (x : Str) (t : Tok) (ty : String) (hty : ty = "str_ascii_iterator" \/ ty = "str_iterator") :
    Turn P w K tg (Its x) [it] it (fun i h => h.IsStrIter it ty x t i) where
  mem := by simp
  obj := fun i h st b hb => by
    have e : b = it := by simpa using hb
    subst e;obtain ⟨o, e, c, d⟩ := st;exact ⟨o, e, fun v z => by rw [d] at z; cases z⟩
  keep := fun i h h' st k => let ⟨o, ho, r⟩ := st; ⟨o, k it (by simp) o ho, r⟩
  item := by
    intro X hP hw hK hc i pins s σ H E I hf st hg;subst hP hw hK;obtain ⟨f0, f1, f2, f3, f4, f5⟩ := hf it (by simp)
    have W : Walks X.prog X.w X.A it [it] [it] x.cps.size (SignAt x) (fun i h => h.IsStrIter it ty x t i) := by
      rcases hty with e | e
      · rw [e]; exact Walks.strAscii (I.ok.hd hc) it x t
      · rw [e]; exact Walks.strWide (I.ok.hd hc) it x t
    have hno : ["enumerate", "zip", "dict_itemiterator", "dict_reverseitemiterator", "odict_iterator", "itertools.zip_longest", "itertools.pairwise"].contains ty = false := by
      rcases hty with e | e
      · rw [e]; decide
      · rw [e]; decide
    refine W.item i s _ _ hg st fun v h' tk hv st' kk => ?_
    obtain ⟨c, u, hcx, rfl⟩ := hv;have I1 : Inv X pins σ H { s with heap := h', toks := tk } := I.turned (fun b o hb e => kk b o (by simpa using hb) e) f0 f1 f3 f4 f5;obtain ⟨oi, e, cc, dd⟩ := id st';exact ⟨_, rfl, go_of (s := { s with heap := h', toks := tk }) e cc dd hno ⟨.str ⟨#[c]⟩, H, I1, ⟨u, rfl⟩, ⟨rfl, c, hcx, rfl⟩, st', fun b hb => (hf b hb).1⟩⟩
  done := by
    intro X hP hw hK hc i pins s σ H E I hf st hg;subst hP hw hK;obtain ⟨f0, f1, f2, f3, f4, f5⟩ := hf it (by simp);have hx : x.cps[i]? = none := Array.getElem?_eq_none hg;rcases hty with e | e
    · rw [e] at st;exact wpAny_pyNext_ascii_end (I.ok.hd hc) st hx fun h' eb => ⟨rfl, I.turned (t' := s.toks) (fun b o hb e => eb b o hb e) f0 f1 f3 f4 f5⟩
    · rw [e] at st;exact wpAny_pyNext_wide_end (I.ok.hd hc) st hx fun h' eb => ⟨rfl, I.turned (t' := s.toks) (fun b o hb e => eb b o hb e) f0 f1 f3 f4 f5⟩
  self := fun A i s Q E st h => by
    rcases hty with e | e
    · rw [e] at st; exact wpAny_pyIter_striter_ascii st h
    · rw [e] at st; exact wpAny_pyIter_striter_wide st h
def iStr (te : TE) : TI := fun σ H R => te σ H fun v H1 => ∃ x, v = .str x /\ R (Its x) H1
theorem pi_str {X : Cx} {tg e : Expr} {te : TE} (he : PE X e te) : PI X tg e (iStr te) := by
  intro pins s σ H R I h;refine thn (he pins s σ H _ I h) fun v s1 ⟨y, H1, I1, r1, x, ex, q⟩ => ?_
  subst ex;obtain ⟨t, rfl⟩ := r1;cases ha : x.cps.all (· < 128)
  · exact wpAny_pyIter_wide ha (pi_one (tk := s1.toks) I1 _ (turn_str _ x t "str_iterator" (.inr rfl)) ⟨_, Heap.get?_push_size _ rfl, rfl, rfl⟩ q)
  · exact wpAny_pyIter_ascii ha (pi_one (tk := s1.toks) I1 _ (turn_str _ x t "str_ascii_iterator" (.inl rfl)) ⟨_, Heap.get?_push_size _ rfl, rfl, rfl⟩ q)
section
variable {prog : Program} {w : World} {A : Around} {E : Value -> Shared -> Prop} {s : Shared}
end
section
variable {X : Cx} {pins : List (Addr × Obj)} {σ : St} {H : Hp} {s : Shared} {d : Addr} {o : Obj}
end
section
variable {P : Program} {w : World} {K : PySem.W.Frag} {tg : Expr} {d : Addr} {o : Obj} {es : Array DictEntry} {ep : Nat}
end
section
variable {X : Cx} {tg e : Expr} {td : TE} {apos cpos : Pos}
end
def Ite (K : PySem.W.Frag) (a : Addr) : It :=
  ⟨fun i H => ∃ (xs : List V) (x : V), SqL K H a xs /\ xs[i]? = some x, fun i H v H' => ∃ T x, v = .ref T /\ H T = none /\ H' = upd H T (.tup [.int (i : Nat), x]) /\ ∀ xs, SqL K H a xs -> xs[i]? = some x, fun i H => ∃ xs : List V, SqL K H a xs /\ xs.length <= i⟩
theorem turn_enum {P : Program} {w : World} {K : PySem.W.Frag} {elts : List Expr} {kk : Nat} {tpos : Pos} (a e it : Addr) :
    Turn P w K (.Tuple elts kk tpos) (Ite K a) [e, it] e (fun i h => (∃ old, IsEnum h e it ((i : Nat) : Int) old) /\ h.IsListIter it a i /\ e ≠ it) where
  mem := by simp
  obj := fun i h st b hb => by
    obtain ⟨⟨old, he⟩, ⟨o, ho, hc, hd⟩, _⟩ := st;have e' : b = e \/ b = it := by simpa using hb
    rcases e' with z | z
    · rw [z]; exact ⟨_, he, fun v q => nomatch q⟩
    · rw [z]; exact ⟨o, ho, fun v q => by rw [hd] at q; cases q⟩
  keep := fun i h h' st k => let ⟨⟨old, he⟩, hi, hne⟩ := st; ⟨⟨old, k e (by simp) _ he⟩, hi.at fun o q => k it (by simp) o q, hne⟩
  item := by
    intro X hP hw hK hc i pins s σ H E I hf st hg;subst hP hw hK;obtain ⟨⟨old, he⟩, hit, hne⟩ := st;obtain ⟨xs, x, hq, hx⟩ := hg;obtain ⟨its, rv, p, hz⟩ := I.list hq;obtain ⟨u, hu, ru⟩ := rv.get hx;have hel : e < s.heap.objs.size := Heap.lt_size he;have hil : it < s.heap.objs.size := by obtain ⟨_, q, _⟩ := hit; exact Heap.lt_size q
    refine wpAny_pyNext_enum_item he hit p.isList (x := u) (by simpa using hu) hne fun h' ho hit' hT hsz hk => ?_
    refine ⟨_, rfl, wpAny_letOwnedTupleGo_enum (s := { s with heap := h', toks := s.toks + 1 }) ho fun h'' he' sb => ?_⟩;have hT2 : h''.get? s.heap.objs.size = some { cls := .type "tuple", data := .seq #[.int i s.toks, u] } := (sb.2 _ (Nat.ne_of_gt hel)).trans hT
    have new : Q7 X.prog X.w (upd H s.heap.objs.size (.tup [.int (i : Nat), x])) h'' s.heap.objs.size (.tup [.int (i : Nat), x]) :=
      ⟨by show 2 <= sizeLine; decide, [.int i s.toks, u], .cons ⟨_, rfl⟩ (.cons ru .nil), ⟨_, hT2, rfl, _, rfl⟩⟩
    have I1 : Inv X pins σ (upd H s.heap.objs.size (.tup [.int (i : Nat), x])) { s with heap := h'', toks := s.toks + 1 } :=
      I.turnedNew (ch := [e, it]) (fun b ob hb q => (sb.2 b (fun z => hb (by simp [z]))).trans (hk b ob (fun z => hb (by simp [z])) (fun z => hb (by simp [z])) q)) hf (Nat.le_refl _) new
    refine ⟨.ref s.heap.objs.size, _, I1, rfl, ⟨_, x, rfl, I.hok.fresh (Nat.le_refl _), rfl, fun ys hy => by rw [I.list_inj hy hq]; exact hx⟩, ⟨⟨u, ?_⟩, hit'.at fun o q => (sb.2 it (Ne.symm hne)).trans q, hne⟩, fun b hb => ?_⟩
    · have e1 : ((i + 1 : Nat) : Int) = (i : Int) + 1 := by omega
      rw [e1]; exact he'
    · have hb' : b < s.heap.objs.size := by
        have e' : b = e \/ b = it := by simpa using hb
        rcases e' with z | z
        · rw [z]; exact hel
        · rw [z]; exact hil
      rw [y9 (Nat.ne_of_lt hb')];exact (hf b hb).1
  done := by
    intro X hP hw hK hc i pins s σ H E I hf st hg;subst hP hw hK;obtain ⟨⟨old, he⟩, hit, hne⟩ := st;obtain ⟨xs, hq, hx⟩ := hg;obtain ⟨its, rv, p, hz⟩ := I.list hq;obtain ⟨f0, f1, f2, f3, f4, f5⟩ := hf it (by simp);have hl := rv.length;exact wpAny_pyNext_enum_end (I.ok.hd hc) he hit p.isList (by simp; omega) fun h' eb => ⟨rfl, I.turned (t' := s.toks) (fun b o hb q => eb b o hb q) f0 f1 f3 f4 f5⟩
  self := fun A i s Q E st h => let ⟨⟨_, he⟩, _⟩ := st; wpAny_pyIter_enum he h
def iEnum (K : PySem.W.Frag) (ta : TA) : TI := fun σ H R => ta σ H fun vs H1 => ∃ a xs, vs = [.ref a] /\ SqL K H1 a xs /\ R (Ite K a) H1
theorem pi_enum {X : Cx} {e : Expr} {ta : TA} {p pos tpos : Pos} {elts : List Expr} {kk : Nat} (hg : Gl X "enumerate") (hm : X.mg "enumerate" = none) (ha : PA X [e] ta) (hs : starEach [e] X.env = [(false, eval e X.env)] := by rfl) :
    PI X (.Tuple elts kk tpos) (.Call (.Name "enumerate" p) [e] [] pos) (iEnum X.K ta) := by
  intro pins s σ H R I h;refine Call_ (ld_blt I hg hm boot_enumerate (PyProof.Rows.callWith_type1 (thn (ha pos pins s σ H _ I h) fun us s1 ⟨vs, H1, I1, r1, q1⟩ => ?_) hs rfl));obtain ⟨a, xs, ex, hq, q⟩ := q1;subst ex;cases r1 with
  | cons r rr =>
    cases rr;cases r;obtain ⟨its, rv, p', hz⟩ := I1.list hq;refine call_enumerate_list p'.isList fun h' he hit hsz hk => wpAny_pyIter_enum he ?_
    have I2 : Inv X pins σ H1 { s1 with heap := h' } := I1.kept (t' := s1.toks) hk;refine ⟨s1.heap.objs.size + 1, [s1.heap.objs.size + 1, s1.heap.objs.size], _, _, H1, rfl, I2, turn_enum a (s1.heap.objs.size + 1) s1.heap.objs.size, ⟨⟨.none, he⟩, hit, Nat.succ_ne_self _⟩, fun b hb => ?_, q⟩;have e' : b = s1.heap.objs.size + 1 \/ b = s1.heap.objs.size := by simpa using hb
    have hle : s1.heap.objs.size <= b := by
      rcases e' with z | z
      · rw [z]; exact Nat.le_add_right _ _
      · rw [z]; exact Nat.le_refl _
    exact I1.fpOk hle (I1.hok.fresh hle)
theorem boot_zip5 : bootBuiltins "zip" = some (.type "zip") := by decide +kernel
def Itz (K : PySem.W.Frag) (a b : Addr) : It :=
  ⟨fun i H => ∃ (xs ys : List V) (x y : V), SqL K H a xs /\ SqL K H b ys /\ xs[i]? = some x /\ ys[i]? = some y,
    fun i H v H' => ∃ T x y, v = .ref T /\ H T = none /\ H' = upd H T (.tup [x, y]) /\ (∀ xs, SqL K H a xs -> xs[i]? = some x) /\ ∀ ys, SqL K H b ys -> ys[i]? = some y,
    fun i H => ∃ xs ys : List V, SqL K H a xs /\ SqL K H b ys /\ (xs.length <= i \/ ys.length <= i)⟩
theorem turn_zip {P : Program} {w : World} {K : PySem.W.Frag} {elts : List Expr} {kk : Nat} {tpos : Pos} {a b z TI TO i1 i2 : Addr} (D : ZipApart z TI TO i1 i2 a b) :
    Turn P w K (.Tuple elts kk tpos) (Itz K a b) [z, TI, TO, i1, i2] z (fun i h => IsZip h z TI TO .none /\ IsPair h TI (.ref i1) (.ref i2) /\ (∃ x y, IsPair h TO x y) /\ h.IsListIter i1 a i /\ h.IsListIter i2 b i) where
  mem := by simp
  obj := fun i h st c hc => by
    obtain ⟨hz, hTI, ⟨x, y, hTO⟩, ⟨o1, e1, _, d1⟩, ⟨o2, e2, _, d2⟩⟩ := st;have e' : c = z \/ c = TI \/ c = TO \/ c = i1 \/ c = i2 := by simpa using hc
    rcases e' with q | q | q | q | q
    · rw [q]; exact ⟨_, hz, fun v q => nomatch q⟩
    · rw [q]; exact ⟨_, hTI, fun v q => nomatch q⟩
    · rw [q]; exact ⟨_, hTO, fun v q => nomatch q⟩
    · rw [q]; exact ⟨o1, e1, fun v q => by rw [d1] at q; cases q⟩
    · rw [q]; exact ⟨o2, e2, fun v q => by rw [d2] at q; cases q⟩
  keep := fun i h h' st k => by
    obtain ⟨hz, hTI, ⟨x, y, hTO⟩, h1, h2⟩ := st;exact ⟨k z (by simp) _ hz, k TI (by simp) _ hTI, ⟨x, y, k TO (by simp) _ hTO⟩, h1.at fun o q => k i1 (by simp) o q, h2.at fun o q => k i2 (by simp) o q⟩
  item := by
    intro X hP hw hK hc i pins s σ H E I hf st hg;subst hP hw hK;obtain ⟨hz, hTI, ⟨x0, y0, hTO⟩, h1, h2⟩ := st;obtain ⟨xs, ys, x, y, hqx, hqy, hx, hy⟩ := hg;obtain ⟨its, rv, p, _⟩ := I.list hqx;obtain ⟨its2, rv2, p2, _⟩ := I.list hqy;obtain ⟨u, hu, ru⟩ := rv.get hx;obtain ⟨u2, hu2, ru2⟩ := rv2.get hy;have hzl : z < s.heap.objs.size := Heap.lt_size hz;refine wpAny_pyNext_zip_item D hz hTI hTO h1 h2 p.isList p2.isList (x := u) (y := u2) (by simpa using hu) (by simpa using hu2) fun h' z' TO' h1' h2' hT hsz hk => ?_
    refine ⟨_, rfl, wpAny_letOwnedTupleGo_zip (s := { s with heap := h' }) z' fun h'' z'' sb => ?_⟩;have hT2 : h''.get? s.heap.objs.size = some { cls := .type "tuple", data := .seq #[u, u2] } := (sb.2 _ (Nat.ne_of_gt hzl)).trans hT
    have new : Q7 X.prog X.w (upd H s.heap.objs.size (.tup [x, y])) h'' s.heap.objs.size (.tup [x, y]) :=
      ⟨by show 2 <= sizeLine; decide, [u, u2], .cons ru (.cons ru2 .nil), ⟨_, hT2, rfl, _, rfl⟩⟩
    have I1 : Inv X pins σ (upd H s.heap.objs.size (.tup [x, y])) { s with heap := h'' } :=
      I.turnedNew (t' := s.toks) (ch := [z, TI, TO, i1, i2]) (fun c o hb q => (sb.2 c (fun q' => hb (by simp [q']))).trans (hk c o (fun q' => hb (by simp [q'])) (fun q' => hb (by simp [q'])) (fun q' => hb (by simp [q'])) (fun q' => hb (by simp [q'])) q)) hf (Nat.le_refl _) new
    refine ⟨.ref s.heap.objs.size, _, I1, rfl, ⟨_, x, y, rfl, I.hok.fresh (Nat.le_refl _), rfl, fun l hl => by rw [I.list_inj hl hqx]; exact hx, fun l hl => by rw [I.list_inj hl hqy]; exact hy⟩, ⟨z'', ?_, ⟨u, u2, ?_⟩, ?_, ?_⟩, fun c hcm => ?_⟩
    · exact (sb.2 _ D.TIz).trans (hk _ _ D.TIz D.TITO D.TIi1 D.TIi2 hTI)
    · exact (sb.2 _ D.TOz).trans TO'
    · exact h1'.at fun o q => (sb.2 _ D.i1z).trans q
    · exact h2'.at fun o q => (sb.2 _ D.i2z).trans q
    · have hlt : c < s.heap.objs.size := by
        have e' : c = z \/ c = TI \/ c = TO \/ c = i1 \/ c = i2 := by simpa using hcm
        rcases e' with q | q | q | q | q
        · rw [q]; exact hzl
        · rw [q]; exact Heap.lt_size hTI
        · rw [q]; exact Heap.lt_size hTO
        · rw [q]; obtain ⟨_, e1, _⟩ := h1; exact Heap.lt_size e1
        · rw [q]; obtain ⟨_, e2, _⟩ := h2; exact Heap.lt_size e2
      rw [y9 (Nat.ne_of_lt hlt)];exact (hf c hcm).1
  done := by
    intro X hP hw hK hc i pins s σ H E I hf st hg;subst hP hw hK;obtain ⟨hz, hTI, ⟨x0, y0, hTO⟩, h1, h2⟩ := st;obtain ⟨xs, ys, hqx, hqy, hend⟩ := hg;obtain ⟨its, rv, p, _⟩ := I.list hqx;obtain ⟨its2, rv2, p2, _⟩ := I.list hqy;have l1 := rv.length;have l2 := rv2.length
    have he : its.toArray[i]? = none \/ its2.toArray[i]? = none := by
      rcases hend with q | q
      · exact .inl (by simp; omega)
      · exact .inr (by simp; omega)
    exact wpAny_pyNext_zip_end (I.ok.hd hc) D hz hTI hTO h1 h2 p.isList p2.isList he fun h' hk => ⟨rfl, I.turnedL (t' := s.toks) (ch := [z, TI, TO, i1, i2]) (fun c o hb q =>
      hk c o (fun q' => hb (by simp [q'])) (fun q' => hb (by simp [q'])) (fun q' => hb (by simp [q'])) (fun q' => hb (by simp [q'])) q) hf⟩
  self := fun A i s Q E st h => wpAny_pyIter_zip st.1 h
def iZip (K : PySem.W.Frag) (ta : TA) : TI := fun σ H R => ta σ H fun vs H1 => ∃ a b xs ys, vs = [.ref a, .ref b] /\ SqL K H1 a xs /\ SqL K H1 b ys /\ R (Itz K a b) H1
theorem pi_zip {X : Cx} {e e2 : Expr} {ta : TA} {p pos tpos : Pos} {elts : List Expr} {kk : Nat} (hg : Gl X "zip") (hm : X.mg "zip" = none) (ha : PA X [e, e2] ta)
    (hs : starEach [e, e2] X.env = (false, eval e X.env) :: starEach [e2] X.env := by rfl) (hpl : (backTo pos (starEach [e2] X.env)).any (·.1) = false := by rfl) :
    PI X (.Tuple elts kk tpos) (.Call (.Name "zip" p) [e, e2] [] pos) (iZip X.K ta) := by
  intro pins s σ H R I h;refine Call_ (ld_blt I hg hm boot_zip5 (PyProof.Rows.callWith_type1 (thn (ha pos pins s σ H _ I h) fun us s1 ⟨vs, H1, I1, r1, q1⟩ => ?_) hs hpl));obtain ⟨a, b, xs, ys, ex, hqx, hqy, q⟩ := q1;subst ex;cases r1 with
  | cons r rr =>
    cases rr with
    | cons r' rr =>
      cases rr;cases r;cases r';obtain ⟨its, rv, p1, _⟩ := I1.list hqx;obtain ⟨its2, rv2, p2, _⟩ := I1.list hqy;have la : a < s1.heap.objs.size := p1.lt;have lb : b < s1.heap.objs.size := p2.lt;refine call_zip_2 p1.isList p2.isList fun h' hz hTI hTO h1 h2 hsz hk => wpAny_pyIter_zip hz ?_
      have I2 : Inv X pins σ H1 { s1 with heap := h' } := I1.kept (t' := s1.toks) hk;refine ⟨s1.heap.objs.size + 4, [s1.heap.objs.size + 4, s1.heap.objs.size + 2, s1.heap.objs.size + 3, s1.heap.objs.size, s1.heap.objs.size + 1], _, _, H1, rfl, I2, turn_zip (PySem.W.ktu_apart s1.heap.objs.size a b la lb), ⟨hz, hTI, ⟨_, _, hTO⟩, h1, h2⟩, fun c hcm => ?_, q⟩;have e' : c = s1.heap.objs.size + 4 \/ c = s1.heap.objs.size + 2 \/ c = s1.heap.objs.size + 3 \/ c = s1.heap.objs.size \/ c = s1.heap.objs.size + 1 := by simpa using hcm
      have hle : s1.heap.objs.size <= c := by
        rcases e' with z | z | z | z | z
        · rw [z]; exact Nat.le_add_right _ _
        · rw [z]; exact Nat.le_add_right _ _
        · rw [z]; exact Nat.le_add_right _ _
        · rw [z]; exact Nat.le_refl _
        · rw [z]; exact Nat.le_add_right _ _
      exact I1.fpOk hle (I1.hok.fresh hle)
end L2
section
namespace Bits
open PySem PyProof.Rows
theorem nat_xor_add_and (m : Nat) : ∀ n : Nat, (m ^^^ n) + 2 * (m &&& n) = m + n := by
  induction m using Nat.strongRecOn with
  | _ m ih =>
    intro n;by_cases h0 : m = 0
    · subst h0;simp
    · have ih' := ih (m / 2) (by omega) (n / 2);rw [<- Nat.xor_div_two, <- Nat.and_div_two] at ih';have o1 := @Nat.xor_mod_two_eq_one m n;have a1 := @Nat.and_mod_two_eq_one m n;omega
theorem bitXor_pp {x y : Int} (hx : 0 <= x) (hy : 0 <= y) : Builtin.bitXor x y = ((x.toNat ^^^ y.toNat : Nat) : Int) := by
  have e := nat_xor_add_and x.toNat y.toNat;rw [bitXor_and, bitAnd_pp hx hy];omega
theorem bitOr_pp {x y : Int} (hx : 0 <= x) (hy : 0 <= y) : Builtin.bitOr x y = ((x.toNat ||| y.toNat : Nat) : Int) := by
  have e := nat_or_add_and x.toNat y.toNat;rw [bitOr_and, bitAnd_pp hx hy];omega
end Bits
end
section
namespace TL
open PySem PySem.Builtin PySem.Builtin.Str PySem.StrLaws
def pre (S l : List Nat) : Bool := l.take S.length == S
def par (S : List Nat) : List Nat -> List Nat -> Option (List Nat × List Nat)
  | _, [] => none
  | acc, c :: r => if pre S (c :: r) = true then some (acc, (c :: r).drop S.length) else par S (acc ++ [c]) r
end TL
end
namespace L2
open PySem PySem.Spec PyProof.Rows
section
variable {X : Cx} {pins : List (Addr × Obj)} {σ : St} {H : Hp} {s : Shared} {Q : VK}
end
section
variable {X : Cx}
end
section
variable {X : Cx} {o e : Expr} {to te : TE}
end
end L2
namespace L2
open PySem PySem.Spec PyProof.Rows
section
variable {X : Cx}
end
end L2
namespace Att
open PySem PySem.W PySem.Calls PyProof.Rows
section
variable {prog : Program} {w : World} {A : Around} {E : Value -> Shared -> Prop} {s : Shared} {K : Frag}
end
end Att
namespace L2
open PySem PySem.Spec PyProof.Rows
end L2
namespace L2
open PySem PySem.Spec PyProof.Rows
end L2
namespace L2
open PySem PySem.Spec PyProof.Rows
def inClass (s : Stmt) (j : Nat) : Stmt := match s with
  | .ClassDef _ _ _ body _ _ _ _ _ _ _ => body.getD j (.Pass ⟨0, 0, 0, 0⟩)
  | _ => .Pass ⟨0, 0, 0, 0⟩
def defArgs (s : Stmt) : Arguments := match s with
  | .FunctionDef _ a _ _ _ _ _ _ _ _ => a
  | _ => { posonlyargs := [], args := [], vararg := none, kwonlyargs := [], kw_defaults := [], kwarg := none, defaults := [] }
def defBody (s : Stmt) : List Stmt := match s with
  | .FunctionDef _ _ b _ _ _ _ _ _ _ => b
  | _ => []
def y3 (s : Stmt) : Scope := match s with
  | .FunctionDef _ _ _ _ _ _ sc _ _ _ => sc
  | _ => { kind := .function, names := [], isGenerator := false, isCoroutine := false }
abbrev CX0 : CXT := fun _ _ _ _ _ _ => False
abbrev E0 : XK := fun _ _ _ => False
theorem j0 {X : Cx} : Passes CX0 X E0 := fun _ _ _ _ _ _ _ h => h.elim
structure Fun (K : PySem.W.Frag) (x qual : Str) (st : Stmt) (f : Addr) (fd : FuncData) : Prop where
  ex : ∃ (oc : Value) (od : Option Addr) (kV doc pm : Value) (an : Option Addr) (cdv ct : Value) (osl : Array (Option Value)),
    fd = PySem.W.fnOf x qual (defArgs st) (defBody st) (y3 st) .none kV doc pm an cdv ct /\ K.lookup f = some ⟨oc, od, .func fd, osl⟩ /\ PySem.W.codeIn K cdv qual = true
  kp : PySem.W.keepIn K (.ref f) = true
section
variable {P : Program} {w : World} {K : PySem.W.Frag} {mg : Str -> Option Value} {base : Heap}
theorem Fun.ok {x qual : Str} {st : Stmt} {f : Addr} {fd : FuncData} {N ps : List Str} {k : Nat} {sp : Sp} (F : Fun K x qual st f fd) (S : z7 N ps (y3 st)) (len : ∀ vs H Q E, sp vs H Q E -> vs.length = ps.length)
    (hbody : ∀ (cdv : Value) (A : Around) (outer : List Env) (s : Shared) (H : Hp) (vs : List V) (Q : VK) (E : XK), Room k (A.deeper (envOfC qual (y3 st) s.heap.objs.size f cdv)) -> sp vs H Q E ->
      ∃ t, PSs (cxOf CX0 P w K mg base N qual (y3 st) f cdv A outer s H E).nox (defBody st) t /\ t { nx := fun _ H' => Q .non H', rt := Q } (start N vs) H) : FnOk P w K mg base CX0 (k + 1) f fd ps sp := by
  obtain ⟨oc, od, kV, doc, pm, an, cdv, ct, osl, rfl, lk, hcd⟩ := F.ex;refine fn_of lk hcd S len fun A outer s H vs Q E hr hsp => ?_
  obtain ⟨t, h, q⟩ := hbody cdv A outer s H vs Q E hr hsp;exact ⟨t, h.nox, q⟩
theorem Fun.binds {x qual : Str} {st : Stmt} {f : Addr} {fd : FuncData} {ps : List Str} (F : Fun K x qual st f fd)
    (h : ∀ (kV doc pm : Value) (an : Option Addr) (cdv ct : Value) (us : List Value), us.length = ps.length -> bindArgs (PySem.W.fnOf x qual (defArgs st) (defBody st) (y3 st) .none kV doc pm an cdv ct) ⟨us, []⟩ = pure (ps.zip us)) : Binds K fd ps [] := by
  obtain ⟨oc, od, kV, doc, pm, an, cdv, ct, osl, rfl, lk, hcd⟩ := F.ex;exact .all (h kV doc pm an cdv ct)
theorem fun_mk {x qual : Str} {st : Stmt} {f : Addr} {oc : Value} {od an : Option Addr} {osl : Array (Option Value)} {kV doc pm cdv ct : Value} (l : K.lookup f = some ⟨oc, od, .func (PySem.W.fnOf x qual (defArgs st) (defBody st) (y3 st) .none kV doc pm an cdv ct), osl⟩)
    (c : PySem.W.codeIn K cdv qual = true) (k : PySem.W.keepIn K (.ref f) = true) : Fun K x qual st f (PySem.W.fnOf x qual (defArgs st) (defBody st) (y3 st) .none kV doc pm an cdv ct) := ⟨⟨oc, od, kV, doc, pm, an, cdv, ct, osl, rfl, l, c⟩, k⟩
end
theorem hu_of {A : Around} {k : Nat} (hr : Room k A) : A.units + 1 < cLine := Nat.lt_of_le_of_lt (Nat.add_le_add_left (by decide : 1 <= 64) _) hr.units
section
variable {X : Cx}
theorem pv (i : Nat) {x : Str} {pos : Pos} (hN : X.N[i]? = some x := by rfl) (hv : Vis X.env.scope x := by first | exact Or.inl rfl | exact Or.inr (Or.inl rfl) | exact Or.inr (Or.inr rfl)) (hd : (x == ("__debug__" : Str)) = false := by decide)
    (hcd : (x == ("__classdict__" : Str)) = false := by decide) : PE X (.Name x pos) (tVar i) := pe_var hN hv hd hcd
end
theorem iteF {A B : Prop} (h : B) : if false = true then A else B := by
  rw [if_neg Bool.false_ne_true];exact h
theorem iteT {A B : Prop} (h : A) : if true = true then A else B := by
  rw [if_pos rfl];exact h
theorem ite2 {c A B : Prop} [Decidable c] (h1 : c -> A) (h2 : ¬ c -> B) : if c then A else B := by
  by_cases h : c
  · rw [if_pos h];exact h1 h
  · rw [if_neg h];exact h2 h
def Same (H H' : Hp) : Prop := ∀ b o, H b = some o -> H' b = some o
theorem Same.refl (H : Hp) : Same H H := fun _ _ h => h
theorem Same.trans {H H1 H2 : Hp} (a : Same H H1) (b : Same H1 H2) : Same H H2 := fun c o h => b c o (a c o h)
theorem Same.free {H H' : Hp} (e : Same H H') {l : Addr} (h : H' l = Option.none) : H l = Option.none := by
  cases q : H l with
  | none => rfl
  | some o =>
    rw [e l o q] at h;cases h
theorem Same.seq {K : PySem.W.Frag} {H H' : Hp} {a : Addr} {xs : List V} (e : Same H H') (h : SqL K H a xs) : SqL K H' a xs := by
  rcases h with (h | ⟨o, h⟩) | h
  · exact .inl (.inl (e _ _ h))
  · exact .inl (.inr ⟨o, e _ _ h⟩)
  · exact .inr h
section
variable {κ : Type} [DecidableEq κ]
theorem valV_not {kvs : List (κ × V)} {k : κ} (h : valV kvs k = none) : ¬ k ∈ kvs.map (·.1) := by
  intro m;obtain ⟨p, hp, e⟩ := List.mem_map.mp m;have q : (kvs.any fun kv => decide (kv.1 = k)) = true := List.any_eq_true.mpr ⟨p, hp, decide_eq_true e⟩;rw [valV_any, h] at q;exact absurd q (by simp)
theorem valV_in {kvs : List (κ × V)} {k : κ} {v : V} (h : valV kvs k = some v) : k ∈ kvs.map (·.1) := by
  have q : (kvs.any fun kv => decide (kv.1 = k)) = true := by
    rw [valV_any, h]
    all_goals rfl
  obtain ⟨p, hp, e⟩ := List.any_eq_true.mp q;exact List.mem_map.mpr ⟨p, hp, of_decide_eq_true e⟩
theorem nd_snoc : ∀ {l : List κ} {k : κ}, l.Nodup -> ¬ k ∈ l -> (l ++ [k]).Nodup
  | [], k, _, _ => by simp
  | a :: r, k, h, hk => by
    obtain ⟨h1, h2⟩ := List.nodup_cons.mp h;show (a :: (r ++ [k])).Nodup;refine List.nodup_cons.mpr ⟨fun m => ?_, nd_snoc h2 fun m => hk (List.mem_cons.mpr (Or.inr m))⟩;rcases List.mem_append.mp m with q | q
    · exact h1 q
    · exact hk (List.mem_cons.mpr (Or.inl (List.mem_singleton.mp q).symm))
end
theorem at_of {xs : List V} {z : Int} {j : Nat} {v : V} (e : z = (j : Int)) (h : xs[j]? = some v) : atI xs z = some v := by
  rw [e];exact atI_nat h
theorem Same.made {H H1 : Hp} {x dx C : Addr} (nx : H x = Option.none) (nd : H dx = Option.none) (k : ∀ b o, (upd (upd H dx (.own x)) x (.ins C dx [])) b = some o -> b ≠ x -> H1 b = some o) : Same H H1 := fun b o e =>
  k b o (by rw [y9 (y4 e nx), y9 (y4 e nd)]; exact e) (y4 e nx)
end L2
section
namespace L2
open PySem PySem.Spec PyProof.Rows
open PySem.W (WData Codec OpenSpec Well WellAll ReadsW ReadsAllW)
mutual
inductive Dw (K : PySem.W.Frag) (H : Hp) : V -> WData -> Prop
  | non : Dw K H .non .none
  | bl (b : Bool) : Dw K H (.bl b) (.bool b)
  | int (i : Int) : Dw K H (.int i) (.int i)
  | str (x : Str) : Dw K H (.str x) (.str x)
  | byt (b : Array UInt8) : Dw K H (.byt b) (.bytes b.toList)
  | lst {a : Addr} {xs : List V} {ds : List WData} : SqL K H a xs -> DwAll K H xs ds -> Dw K H (.ref a) (.list ds)
  | tup {a : Addr} {xs : List V} {ds : List WData} : SqT K H a xs -> DwAll K H xs ds -> Dw K H (.ref a) (.tuple ds)
inductive DwAll (K : PySem.W.Frag) (H : Hp) : List V -> List WData -> Prop
  | nil : DwAll K H [] []
  | cons {v : V} {vs : List V} {d : WData} {ds : List WData} : Dw K H v d -> DwAll K H vs ds -> DwAll K H (v :: vs) (d :: ds)
end
theorem dw_ints {K : PySem.W.Frag} {H : Hp} : ∀ ns : List Int, DwAll K H (ns.map V.int) (ns.map WData.int)
  | [] => .nil
  | n :: r => .cons (.int n) (dw_ints r)
theorem ints_dw {K : PySem.W.Frag} {H : Hp} : ∀ (ns : List Int) (xs : List V), DwAll K H xs (ns.map WData.int) -> xs = ns.map V.int
  | [], xs, h => by
    cases h;rfl
  | n :: r, xs, h => by
    cases h with
    | cons h1 h2 =>
      cases h1;rw [ints_dw r _ h2] <;> rfl
section
variable {P : Program} {w : World} {K : PySem.W.Frag} {H : Hp} {h : Heap} {R : PySem.W.WRecords} {cl : Str -> Option Addr}
theorem sqL_at {a : Addr} {xs : List V} (hok : HOk P w H h) (KX : K.In h) (q : SqL K H a xs) : ∃ (its : List Value) (o : Obj) (n : Nat), Vals xs its /\ h.get? a = some o /\ o.cls = .type "list" /\ o.data = .seq its.toArray n := by
  rcases q with q | ⟨o, its, n, e, hc, _, hd, _, hv⟩
  · obtain ⟨_, its, n, hv, e⟩ := (show Q7 P w H h a (.lst xs) from q.ok hok);exact ⟨its, _, n, hv, e, rfl, rfl⟩
  · exact ⟨its.toList, o, n, hv, KX _ _ e, hc, by simp [hd]⟩
theorem sqT_at {a : Addr} {xs : List V} (hok : HOk P w H h) (KX : K.In h) (q : SqT K H a xs) : ∃ (its : List Value) (o : Obj) (n : Nat), Vals xs its /\ h.get? a = some o /\ o.cls = .type "tuple" /\ o.data = .seq its.toArray n := by
  rcases q with q | ⟨o, its, n, e, hc, hd, _, hv⟩
  · obtain ⟨_, its, hv, o, e, hc, n, hd⟩ := (show Q7 P w H h a (.tup xs) from q.ok hok);exact ⟨its, o, n, hv, e, hc, hd⟩
  · exact ⟨its.toList, o, n, hv, KX _ _ e, hc, by simp [hd]⟩
mutual
theorem Dw.reads (hok : HOk P w H h) (KX : K.In h) : ∀ (d : WData) (v : V) (u : Value), Dw K H v d -> RelV v u -> ∃ as, ReadsW R cl h u d as
  | .none, _, _, x, r => by
    cases x;cases r;exact ⟨_, ReadsW.none⟩
  | .bool b, _, _, x, r => by
    cases x;cases r;exact ⟨_, ReadsW.bool b⟩
  | .int i, _, _, x, r => by
    cases x;obtain ⟨t, rfl⟩ := r;exact ⟨_, ReadsW.int i t⟩
  | .str s, _, _, x, r => by
    cases x;obtain ⟨t, rfl⟩ := r;exact ⟨_, ReadsW.str s t⟩
  | .bytes b, _, _, x, r => by
    cases x;obtain ⟨t, rfl⟩ := r;exact ⟨_, ReadsW.bytes _ t⟩
  | .list ds, _, _, x, r => by
    cases x with
    | lst hs ha =>
      cases r;obtain ⟨its, o, n, rv, ho, hc, hd⟩ := sqL_at hok KX hs;obtain ⟨as, hr⟩ := Dw.readsAll hok KX ds _ its ha rv;exact ⟨_, ReadsW.list ho hc hd hr⟩
  | .tuple ds, _, _, x, r => by
    cases x with
    | tup hs ha =>
      cases r;obtain ⟨its, o, n, rv, ho, hc, hd⟩ := sqT_at hok KX hs;obtain ⟨as, hr⟩ := Dw.readsAll hok KX ds _ its ha rv;exact ⟨_, ReadsW.tuple ho hc hd hr⟩
  | .float _, _, _, x, _ => by cases x
  | .dict _, _, _, x, _ => by cases x
  | .bytearray _, _, _, x, _ => by cases x
  | .set _, _, _, x, _ => by cases x
  | .frozenset _, _, _, x, _ => by cases x
  | .obj _ _, _, _, x, _ => by cases x
theorem Dw.readsAll (hok : HOk P w H h) (KX : K.In h) : ∀ (ds : List WData) (vs : List V) (us : List Value), DwAll K H vs ds -> Vals vs us -> ∃ as, ReadsAllW R cl h us ds as
  | [], _, _, x, r => by
    cases x;cases r;exact ⟨_, ReadsAllW.nil⟩
  | d :: ds, _, _, x, r => by
    cases x with
    | cons h1 h2 =>
      cases r with
      | cons r1 r2 =>
        obtain ⟨as, q1⟩ := Dw.reads hok KX d _ _ h1 r1;obtain ⟨bs, q2⟩ := Dw.readsAll hok KX ds _ _ h2 r2;exact ⟨_, ReadsAllW.cons q1 q2⟩
end
end
mutual
def plW : WData -> Bool
  | .none => true
  | .bool _ => true
  | .int _ => true
  | .str _ => true
  | .bytes _ => true
  | .list xs => plWs xs
  | .tuple xs => plWs xs
  | _ => false
def plWs : List WData -> Bool
  | [] => true
  | x :: r => plW x && plWs r
end
theorem plWs_map {α : Type} {f : α -> WData} (h : ∀ a, plW (f a) = true) : ∀ l : List α, plWs (l.map f) = true
  | [] => rfl
  | x :: r => by
    show (plW (f x) && plWs (r.map f)) = true;rw [h x, plWs_map h r] <;> rfl
theorem pl_enc : ∀ (c : Codec) (a : c.denote), plW (c.enc a) = true
  | .unit, _ => rfl
  | .bool, _ => rfl
  | .int _ _, _ => rfl
  | .nat _ _, _ => rfl
  | .u8, _ => rfl
  | .bytes _ _, _ => rfl
  | .text _ _ _ _, _ => rfl
  | .list _ _ c, a => plWs_map (fun x => pl_enc c x) a
  | .pair c d, a => by
    show (plW (c.enc a.1) && (plW (d.enc a.2) && true)) = true;rw [pl_enc c a.1, pl_enc d a.2] <;> rfl
  | .triple c d e, a => by
    show (plW (c.enc a.1) && (plW (d.enc a.2.1) && (plW (e.enc a.2.2) && true))) = true;rw [pl_enc c a.1, pl_enc d a.2.1, pl_enc e a.2.2] <;> rfl
  | .option c, none => rfl
  | .option c, some x => pl_enc c x
theorem pl_encAll : ∀ (cs : List Codec) (a : Codec.denoteAll cs), plWs (Codec.encAll cs a) = true
  | [], _ => rfl
  | c :: cs, a => by
    show (plW (c.enc a.1) && plWs (Codec.encAll cs a.2)) = true;rw [pl_enc c a.1, pl_encAll cs a.2] <;> rfl
theorem weight_mem : ∀ {xs : List WData} {d : WData}, d ∈ xs -> d.weight <= WData.weightAll xs
  | [], d, h => absurd h (by simp)
  | x :: r, d, h => by
    show d.weight <= x.weight + 1 + WData.weightAll r;rcases List.mem_cons.mp h with e | m
    · rw [e];omega
    · have z := weight_mem m;omega
def toV : Value -> V
  | .none => .non
  | .bool b => .bl b
  | .int i _ => .int i
  | .str x _ => .str x
  | .bytes b _ => .byt b
  | .ref a => .ref a
  | _ => .non
def OkU (A : List Addr) : Value -> Prop
  | .none => True
  | .bool _ => True
  | .int _ _ => True
  | .str _ _ => True
  | .bytes _ _ => True
  | .ref a => a ∈ A
  | _ => False
theorem OkU.mono {A B : List Addr} (h : ∀ a ∈ A, a ∈ B) : ∀ {u : Value}, OkU A u -> OkU B u := fun {u} x => by
  cases u with
  | ref a => exact h a x
  | none => trivial
  | bool b => trivial
  | int i t => trivial
  | str s t => trivial
  | bytes b t => trivial
  | _ => exact False.elim x
theorem relV_toV {A : List Addr} {u : Value} (x : OkU A u) : RelV (toV u) u := by
  cases u with
  | ref a => rfl
  | none => rfl
  | bool b => rfl
  | int i t => exact ⟨t, rfl⟩
  | str s t => exact ⟨t, rfl⟩
  | bytes b t => exact ⟨t, rfl⟩
  | _ => exact False.elim x
theorem vals_toV {A : List Addr} : ∀ {vs : List Value}, (∀ u ∈ vs, OkU A u) -> Vals (vs.map toV) vs
  | [], _ => .nil
  | u :: r, h => .cons (relV_toV (h u (List.mem_cons_self ..))) (vals_toV fun x hx => h x (List.mem_cons_of_mem _ hx))
def ArgOb (h : Heap) (A : List Addr) (a : Addr) : Prop := ∃ vs : List Value, vs.length <= sizeLine /\ (∀ u ∈ vs, OkU A u) /\
  (h.get? a = some { cls := .type "list", data := .seq vs.toArray } \/ h.get? a = some { cls := .type "tuple", data := .seq vs.toArray })
theorem ArgOb.mono {h : Heap} {A B : List Addr} {a : Addr} (k : ∀ a ∈ A, a ∈ B) (x : ArgOb h A a) : ArgOb h B a := by
  obtain ⟨vs, h1, h2, h3⟩ := x;exact ⟨vs, h1, fun u hu => (h2 u hu).mono k, h3⟩
theorem wellAll_len {P : Params} {h : Heap} : ∀ {vs : List Value} {ds : List WData}, WellAll P h vs ds -> vs.length = ds.length
  | _, _, .nil => rfl
  | _, _, .cons _ b => by
    show _ + 1 = _ + 1;rw [wellAll_len b]
theorem well_list {P : Params} {h : Heap} {v : Value} {ds : List WData} (x : Well P h v (.list ds)) : ∃ (a : Addr) (vs : List Value), v = .ref a /\ h.get? a = some { cls := .type "list", data := .seq vs.toArray } /\ WellAll P h vs ds := by
  cases x with
  | list ho hall => exact ⟨_, _, rfl, ho, hall⟩
theorem well_tuple {P : Params} {h : Heap} {v : Value} {ds : List WData} (x : Well P h v (.tuple ds)) : ∃ (a : Addr) (vs : List Value), v = .ref a /\ h.get? a = some { cls := .type "tuple", data := .seq vs.toArray } /\ WellAll P h vs ds := by
  cases x with
  | tuple ho hall => exact ⟨_, _, rfl, ho, hall⟩
theorem well_cons {P : Params} {h : Heap} {us : List Value} {d : WData} {ds : List WData} (x : WellAll P h us (d :: ds)) : ∃ (v : Value) (vs : List Value), us = v :: vs /\ Well P h v d /\ WellAll P h vs ds := by
  cases x with
  | cons a b => exact ⟨_, _, rfl, a, b⟩
theorem line_of {n : Nat} (h : n <= 1048576) : n <= sizeLine := Nat.le_trans h (by decide)
section
variable {P : Params} {h : Heap}
mutual
theorem area_one : ∀ (d : WData) (v : Value), Well P h v d -> plW d = true -> d.weight <= 1048576 -> ∃ A : List Addr, OkU A v /\ ∀ a ∈ A, ArgOb h A a
  | .none, _, x, _, _ => by
    cases x;exact ⟨[], trivial, fun a m => absurd m (by simp)⟩
  | .bool b, _, x, _, _ => by
    cases x;exact ⟨[], trivial, fun a m => absurd m (by simp)⟩
  | .int i, _, x, _, _ => by
    cases x;exact ⟨[], trivial, fun a m => absurd m (by simp)⟩
  | .str s, _, x, _, _ => by
    cases x;exact ⟨[], trivial, fun a m => absurd m (by simp)⟩
  | .bytes b, _, x, _, _ => by
    cases x;exact ⟨[], trivial, fun a m => absurd m (by simp)⟩
  | .list ds, _, x, p, z => by
    obtain ⟨a, vs, rfl, ho, hall⟩ := well_list x;have z2 : WData.weightAll ds <= 1048576 := z;obtain ⟨A, h1, h2⟩ := area_all ds _ hall p fun d hd => Nat.le_trans (weight_mem hd) z2
    have k : ∀ b ∈ A, b ∈ a :: A := fun b hb => List.mem_cons_of_mem _ hb
    refine ⟨a :: A, List.mem_cons_self .., fun b hb => ?_⟩;rcases List.mem_cons.mp hb with e | m
    · rw [e];exact ⟨vs, line_of (by rw [wellAll_len hall]; exact Nat.le_trans (PySem.W.length_le_weightAllW ds) z2), fun u hu => (h1 u hu).mono k, .inl ho⟩
    · exact (h2 b m).mono k
  | .tuple ds, _, x, p, z => by
    obtain ⟨a, vs, rfl, ho, hall⟩ := well_tuple x;have z2 : WData.weightAll ds <= 1048576 := z;obtain ⟨A, h1, h2⟩ := area_all ds _ hall p fun d hd => Nat.le_trans (weight_mem hd) z2
    have k : ∀ b ∈ A, b ∈ a :: A := fun b hb => List.mem_cons_of_mem _ hb
    refine ⟨a :: A, List.mem_cons_self .., fun b hb => ?_⟩;rcases List.mem_cons.mp hb with e | m
    · rw [e];exact ⟨vs, line_of (by rw [wellAll_len hall]; exact Nat.le_trans (PySem.W.length_le_weightAllW ds) z2), fun u hu => (h1 u hu).mono k, .inr ho⟩
    · exact (h2 b m).mono k
  | .float _, _, _, p, _ => Bool.noConfusion (show false = true from p)
  | .dict _, _, _, p, _ => Bool.noConfusion (show false = true from p)
  | .bytearray _, _, _, p, _ => Bool.noConfusion (show false = true from p)
  | .set _, _, _, p, _ => Bool.noConfusion (show false = true from p)
  | .frozenset _, _, _, p, _ => Bool.noConfusion (show false = true from p)
  | .obj _ _, _, _, p, _ => Bool.noConfusion (show false = true from p)
theorem area_all : ∀ (ds : List WData) (vs : List Value), WellAll P h vs ds -> plWs ds = true -> (∀ d ∈ ds, d.weight <= 1048576) -> ∃ A : List Addr, (∀ u ∈ vs, OkU A u) /\ ∀ a ∈ A, ArgOb h A a
  | [], _, x, _, _ => by
    cases x;exact ⟨[], fun u m => absurd m (by simp), fun a m => absurd m (by simp)⟩
  | d :: ds, _, x, p, z => by
    obtain ⟨v, vs, rfl, x1, x2⟩ := well_cons x;have q : plW d = true /\ plWs ds = true := Bool.and_eq_true_iff.mp p;obtain ⟨A, a1, a2⟩ := area_one d v x1 q.1 (z d (List.mem_cons_self ..));obtain ⟨B, b1, b2⟩ := area_all ds vs x2 q.2 fun e he => z e (List.mem_cons_of_mem _ he)
    have kA : ∀ b ∈ A, b ∈ A ++ B := fun b hb => List.mem_append.mpr (.inl hb)
    have kB : ∀ b ∈ B, b ∈ A ++ B := fun b hb => List.mem_append.mpr (.inr hb)
    refine ⟨A ++ B, fun u hu => ?_, fun b hb => ?_⟩
    · rcases List.mem_cons.mp hu with e | m
      · rw [e];exact a1.mono kA
      · exact (b1 u m).mono kB
    · rcases List.mem_append.mp hb with m | m
      · exact (a2 b m).mono kA
      · exact (b2 b m).mono kB
end
end
def hoOf (o : Obj) : Option HO := match o.data with
  | .seq vs _ => if (o.cls == Value.type "list") = true then some (.frz o (.lst (vs.toList.map toV))) else some (.frz o (.tup (vs.toList.map toV)))
  | _ => none
def argH (K : PySem.W.Frag) (h : Heap) (A : List Addr) : Hp := fun b => if b ∈ A then (if (K.lookup b).isNone = true then (h.get? b).bind hoOf else none) else none
def OnlyF (H : Hp) : Prop := ∀ b, H b = none \/ ∃ o u, H b = some (.frz o u)
theorem hoOf_lst (vs : List Value) : hoOf { cls := .type "list", data := .seq vs.toArray } = some (.frz { cls := .type "list", data := .seq vs.toArray } (.lst (vs.map toV))) := by
  show (if (Value.type "list" == Value.type "list") = true then some (HO.frz { cls := .type "list", data := .seq vs.toArray } (.lst (vs.toArray.toList.map toV))) else some (HO.frz { cls := .type "list", data := .seq vs.toArray } (.tup (vs.toArray.toList.map toV)))) = _;rw [if_pos (beq_self_eq_true _)]
theorem hoOf_tup (vs : List Value) : hoOf { cls := .type "tuple", data := .seq vs.toArray } = some (.frz { cls := .type "tuple", data := .seq vs.toArray } (.tup (vs.map toV))) := by
  show (if (Value.type "tuple" == Value.type "list") = true then some (HO.frz { cls := .type "tuple", data := .seq vs.toArray } (.lst (vs.toArray.toList.map toV))) else some (HO.frz { cls := .type "tuple", data := .seq vs.toArray } (.tup (vs.toArray.toList.map toV)))) = _;rw [if_neg (by decide)]
section
variable {P : Program} {w : World} {K : PySem.W.Frag} {h : Heap} {A : List Addr}
theorem argH_at {b : Addr} {o : Obj} (hb : b ∈ A) (hk : K.lookup b = none) (e : h.get? b = some o) : argH K h A b = hoOf o := by
  unfold argH;rw [if_pos hb, hk, if_pos (show (none : Option Obj).isNone = true from rfl), e] <;> rfl
theorem of_argH {b : Addr} {u : HO} (q : argH K h A b = some u) : b ∈ A /\ K.lookup b = none := by
  unfold argH at q;by_cases hb : b ∈ A
  · rw [if_pos hb] at q;cases hk : K.lookup b with
    | none => exact ⟨hb, rfl⟩
    | some o =>
      rw [hk, if_neg (by simp)] at q;cases q
  · rw [if_neg hb] at q;cases q
theorem argH_is (ar : ∀ a ∈ A, ArgOb h A a) {b : Addr} {u : HO} (q : argH K h A b = some u) : K.lookup b = none /\ ∃ vs : List Value, vs.length <= sizeLine /\ (∀ u ∈ vs, OkU A u) /\
    ((h.get? b = some { cls := .type "list", data := .seq vs.toArray } /\ u = .frz { cls := .type "list", data := .seq vs.toArray } (.lst (vs.map toV))) \/
     (h.get? b = some { cls := .type "tuple", data := .seq vs.toArray } /\ u = .frz { cls := .type "tuple", data := .seq vs.toArray } (.tup (vs.map toV)))) := by
  obtain ⟨hb, hk⟩ := of_argH q;obtain ⟨vs, h1, h2, h3⟩ := ar b hb;refine ⟨hk, vs, h1, h2, ?_⟩;rcases h3 with e | e
  · rw [argH_at hb hk e, hoOf_lst] at q;exact .inl ⟨e, (Option.some.inj q).symm⟩
  · rw [argH_at hb hk e, hoOf_tup] at q;exact .inr ⟨e, (Option.some.inj q).symm⟩
theorem argH_only (ar : ∀ a ∈ A, ArgOb h A a) : OnlyF (argH K h A) := fun b => by
  cases q : argH K h A b with
  | none => exact .inl rfl
  | some u =>
    obtain ⟨_, vs, _, _, ⟨_, e⟩ | ⟨_, e⟩⟩ := argH_is ar q
    · exact .inr ⟨_, _, by rw [e]⟩
    · exact .inr ⟨_, _, by rw [e]⟩
theorem argH_ok (ar : ∀ a ∈ A, ArgOb h A a) : HOk P w (argH K h A) h := fun b u q => by
  obtain ⟨_, vs, h1, h2, ⟨e, rfl⟩ | ⟨e, rfl⟩⟩ := argH_is ar q
  · exact ⟨e, by rw [List.length_map]; exact h1, vs, _, vals_toV h2, e⟩
  · exact ⟨e, by rw [List.length_map]; exact h1, vs, vals_toV h2, _, e, rfl, _, rfl⟩
theorem seq_inj {c c' : Value} {vs us : List Value} (e : (some { cls := c, data := .seq vs.toArray } : Option Obj) = some { cls := c', data := .seq us.toArray }) : c = c' /\ vs = us := by
  have e1 := Option.some.inj e;have e2 : c = c' := congrArg Obj.cls e1;have e3 : Data.seq vs.toArray = Data.seq us.toArray := congrArg Obj.data e1;injection e3 with e4
  refine ⟨e2, ?_⟩;have e5 := congrArg Array.toList e4;simpa using e5
theorem argL (KX : K.In h) (ar : ∀ a ∈ A, ArgOb h A a) {a : Addr} {vs : List Value} (ha : a ∈ A) (e : h.get? a = some { cls := .type "list", data := .seq vs.toArray }) : (∀ u ∈ vs, OkU A u) /\ SqL K (argH K h A) a (vs.map toV) := by
  obtain ⟨us, h1, h2, h3⟩ := ar a ha
  have hu : us = vs := by
    rcases h3 with q | q
    · rw [e] at q;exact (seq_inj q).2.symm
    · rw [e] at q;exact absurd (Value.type.inj (seq_inj q).1) (by decide)
  subst hu;refine ⟨h2, ?_⟩;cases hk : K.lookup a with
  | none => exact .inl (.inr ⟨_, by rw [argH_at ha hk e, hoOf_lst]⟩)
  | some o =>
    have e2 := KX a o hk;rw [e] at e2;obtain rfl := Option.some.inj e2;exact .inr ⟨_, us.toArray, _, hk, rfl, rfl, rfl, by rw [List.size_toArray]; exact h1, by simpa using vals_toV h2⟩
theorem argT (KX : K.In h) (ar : ∀ a ∈ A, ArgOb h A a) {a : Addr} {vs : List Value} (ha : a ∈ A) (e : h.get? a = some { cls := .type "tuple", data := .seq vs.toArray }) : (∀ u ∈ vs, OkU A u) /\ SqT K (argH K h A) a (vs.map toV) := by
  obtain ⟨us, h1, h2, h3⟩ := ar a ha
  have hu : us = vs := by
    rcases h3 with q | q
    · rw [e] at q;exact absurd (Value.type.inj (seq_inj q).1) (by decide)
    · rw [e] at q;exact (seq_inj q).2.symm
  subst hu;refine ⟨h2, ?_⟩;cases hk : K.lookup a with
  | none => exact .inl (.inr ⟨_, by rw [argH_at ha hk e, hoOf_tup]⟩)
  | some o =>
    have e2 := KX a o hk;rw [e] at e2;obtain rfl := Option.some.inj e2;exact .inr ⟨_, us.toArray, _, hk, rfl, rfl, by rw [List.size_toArray]; exact h1, by simpa using vals_toV h2⟩
mutual
theorem dw_one {Pm : Params} (KX : K.In h) (ar : ∀ a ∈ A, ArgOb h A a) : ∀ (d : WData) (v : Value), Well Pm h v d -> plW d = true -> OkU A v -> Dw K (argH K h A) (toV v) d
  | .none, _, x, _, _ => by
    cases x;exact .non
  | .bool b, _, x, _, _ => by
    cases x;exact .bl b
  | .int i, _, x, _, _ => by
    cases x;exact .int i
  | .str s, _, x, _, _ => by
    cases x;exact .str s
  | .bytes b, _, x, _, _ => by
    cases x;have z := Dw.byt (K := K) (H := argH K h A) b.toArray;exact z
  | .list ds, _, x, p, hu => by
    obtain ⟨a, vs, rfl, ho, hall⟩ := well_list x;obtain ⟨h2, hs⟩ := argL KX ar hu ho;exact .lst hs (dw_all KX ar ds _ hall p h2)
  | .tuple ds, _, x, p, hu => by
    obtain ⟨a, vs, rfl, ho, hall⟩ := well_tuple x;obtain ⟨h2, hs⟩ := argT KX ar hu ho;exact .tup hs (dw_all KX ar ds _ hall p h2)
  | .float _, _, _, p, _ => Bool.noConfusion (show false = true from p)
  | .dict _, _, _, p, _ => Bool.noConfusion (show false = true from p)
  | .bytearray _, _, _, p, _ => Bool.noConfusion (show false = true from p)
  | .set _, _, _, p, _ => Bool.noConfusion (show false = true from p)
  | .frozenset _, _, _, p, _ => Bool.noConfusion (show false = true from p)
  | .obj _ _, _, _, p, _ => Bool.noConfusion (show false = true from p)
theorem dw_all {Pm : Params} (KX : K.In h) (ar : ∀ a ∈ A, ArgOb h A a) : ∀ (ds : List WData) (vs : List Value), WellAll Pm h vs ds -> plWs ds = true -> (∀ u ∈ vs, OkU A u) -> DwAll K (argH K h A) (vs.map toV) ds
  | [], _, x, _, _ => by
    cases x;exact .nil
  | d :: ds, _, x, p, hu => by
    obtain ⟨v, vs, rfl, x1, x2⟩ := well_cons x;have q : plW d = true /\ plWs ds = true := Bool.and_eq_true_iff.mp p;exact .cons (dw_one KX ar d v x1 q.1 (hu _ (List.mem_cons_self ..))) (dw_all KX ar ds vs x2 q.2 fun u m => hu u (List.mem_cons_of_mem _ m))
end
end
theorem spec_call {P : Program} {w : World} {K : PySem.W.Frag} {mg mb : Str -> Option Value} {CX : CXT} {k : Nat} {fa : Addr} {fd : FuncData} {ps : List Str} {sp : Sp} {s₁ : Shared} {vals : List Value} {ds : List WData} {R : PySem.W.WRecords} {cl : Str -> Option Addr} {d0 : WData}
    (KX : K.In s₁.heap) (hns : s₁.heap.Ns mainGlobals mg) (hb : s₁.heap.Ns builtinsNs mb) (hbb : ∀ x : Str, x ≠ "__name__" -> mb x = bootBuiltins x) (hlim : s₁.heap.NoLimit) (hg : s₁.gens = #[])
    (hwl : WellAll w.params s₁.heap vals ds) (hpl : plWs ds = true) (hwt : ∀ d ∈ ds, d.weight <= 1048576) (hr : Room k callerA)
    (F : ∀ base : Heap, K.In base -> base.Ns mainGlobals mg -> FnOk P w K mg base CX k fa fd ps sp) (hbind : ∀ (s : Shared) (us : List Value), us.length = ps.length -> BindsTo s fd ⟨us, []⟩ (ps.zip us)) (hlen : ds.length = ps.length)
    (hsp : ∀ (H : Hp) (xs : List V), OnlyF H -> DwAll K H xs ds -> sp xs H (fun v H' => Dw K H' v d0) fun _ _ _ => False)
    (hCX : ∀ H e s', CX [] H s₁ (fun _ _ _ => False) e s' -> False) :
    codeAny (model P w) callerA (.call (.ref fa) ⟨vals, []⟩) (fun r s' => ∃ u as, r = .ok (.ret u) /\ ReadsW R cl s'.heap u d0 as /\ OldK s₁.heap s'.heap /\ s'.os = s₁.os /\ AllBare s'.gens) s₁ := by
  obtain ⟨A, ho, ar⟩ := area_all ds vals hwl hpl hwt;have hO : OnlyF (argH K s₁.heap A) := argH_only ar;have hok : HOk P w (argH K s₁.heap A) s₁.heap := argH_ok ar;have hS := dw_all KX ar ds vals hwl hpl ho;have hV := vals_toV ho;have hK : ∀ b u, argH K s₁.heap A b = some u -> K.lookup b = none := fun b u q => (argH_is ar q).1
  have noA : ∀ {b : Addr} {o : Obj} {es : Array DictEntry} {ep : Nat}, s₁.heap.get? b = some o -> o.data = .dict es ep -> argH K s₁.heap A b = none := fun {b o es ep} e d => by
    cases q : argH K s₁.heap A b with
    | none => rfl
    | some u =>
      obtain ⟨_, vs, _, _, ⟨e2, _⟩ | ⟨e2, _⟩⟩ := argH_is ar q
      · rw [e2] at e;cases e;have d' : Data.seq vs.toArray _ = Data.dict es ep := d;cases d'
      · rw [e2] at e;cases e;have d' : Data.seq vs.toArray _ = Data.dict es ep := d;cases d'
  generalize argH K s₁.heap A = H at hO hok hS hK noA;have base_of : ∀ {b : Addr} {o : Obj}, s₁.heap.get? b = some o -> H b = none -> (hidT s₁.heap H).get? b = some o := fun e n => hidT_get e n
  have nsK : ∀ {b : Addr} {m : Str -> Option Value}, s₁.heap.Ns b m -> (hidT s₁.heap H).Ns b m := fun {b m} ⟨o, es, ep, e, d, r⟩ => ⟨o, es, ep, base_of e (noA e d), d, r⟩
  have nK : ∀ b o, K.lookup b = some o -> H b = none := fun b o e => by
    cases q : H b with
    | none => rfl
    | some u =>
      rw [hK b u q] at e;cases e
  have hKb : K.In (hidT s₁.heap H) := fun b o e => base_of (KX b o e) (nK b o e)
  have hM : Mod K mg (hidT s₁.heap H) := ⟨hKb, nsK hns, ⟨mb, nsK hb, hbb⟩, let ⟨mc, h1, h2⟩ := hlim; ⟨mc, nsK h1, h2⟩⟩;have e0 : Env0 P w K mg (hidT s₁.heap H) callerA [] s₁ H := ⟨rfl, hM, fun b o e => of_hidT e, Nat.le_of_eq (hidT_size _ _), trivial, fun b hb => absurd (show b ∈ ([] : List Addr) from hb) (by simp), hok, .of_eq hg⟩;have hl : vals.length = ps.length := by rw [wellAll_len hwl]; exact hlen
  refine codeAny_mono ((F _ hKb (nsK hns)).run callerA [] s₁ H ⟨vals, []⟩ vals (vals.map toV) _ _ hr e0 (hbind s₁ vals hl) hV (hsp H _ hO hS)) fun r s' x => ?_
  cases r with
  | error e => exact (hCX H e s' x).elim
  | ok fl =>
    cases fl with
    | next => exact False.elim x
    | brk => exact False.elim x
    | cont => exact False.elim x
    | ret u =>
      obtain ⟨v, H', os, bare, un, hok', r', q⟩ := x
      have kept : ∀ b o, s₁.heap.get? b = some o -> s'.heap.get? b = some o := fun b o e => by
        cases q2 : H b with
        | none => exact un.keep b o e q2 (by intro z; exact absurd (show b ∈ ([] : List Addr) from z) (by simp)) (by simp)
        | some u2 =>
          rcases hO b with z | ⟨ob, u3, z⟩
          · rw [q2] at z;cases z
          · have z2 := un.frzs b ob _ z;obtain ⟨e1, _⟩ := hok b _ z;obtain ⟨e2, _⟩ := hok' b _ z2;rw [e] at e1;cases e1;exact e2
      have KX' : K.In s'.heap := fun b o e => kept b o (KX b o e)
      obtain ⟨as, hrd⟩ := Dw.reads (R := R) (cl := cl) hok' KX' d0 v u q r';exact ⟨u, as, rfl, hrd, OldK.of_keep kept, os, bare⟩
theorem layable_weight {ds : List WData} (h : WData.layableAll ds = true) : ∀ d ∈ ds, d.weight <= 1048576 := fun d hd =>
  (PySem.W.layableW_iff.mp (List.all_eq_true.mp h d hd)).2.2
theorem encAll_len : ∀ (cs : List Codec) (a : Codec.denoteAll cs), (Codec.encAll cs a).length = cs.length
  | [], _ => rfl
  | c :: cs, a => by
    show (Codec.encAll cs a.2).length + 1 = cs.length + 1;rw [encAll_len cs a.2]
theorem walk_spec {r : OpenSpec} {k : Nat} {q : Program} {loose : List Str} {XP : (Str -> Option Value) -> Heap -> Prop} {YP : World -> Heap -> Prop} {d : DefRec} {K : Params -> PySem.W.Frag} {CX : World -> CXT} {ps : List Str} {sp : World -> Sp}
    (hwell : r.wellSaid = true) (hdf : d.params.defaults = []) (hlen : r.args.length = ps.length) (hr : Room k callerA)
    (hY : ∀ (w : World) (h : Heap), YP w h -> (K w.params).In h)
    (F : ∀ (w : World) (mg : Str -> Option Value) (fa : Addr) (h : Heap), YP w h -> (K w.params).In h -> h.Ns mainGlobals mg -> mg d.name = some (.ref fa) ->
      ∃ fd : FuncData, (∀ (s : Shared) (us : List Value), us.length = ps.length -> BindsTo s fd ⟨us, []⟩ (ps.zip us)) /\
        ∀ base : Heap, (K w.params).In base -> base.Ns mainGlobals mg -> FnOk r.prog w (K w.params) mg base (CX w) k fa fd ps (sp w))
    (hsp : ∀ (w : World) (H : Hp) (xs : List V) (a : Codec.denoteAll r.args), OnlyF H -> Codec.withinAll r.args a = true -> Codec.app r.args r.asked a = true -> DwAll (K w.params) H xs (Codec.encAll r.args a) ->
      sp w xs H (fun v H' => Dw (K w.params) H' v (r.ret.enc (Codec.app r.args r.f a))) fun _ _ _ => False)
    (hCX : ∀ (w : World) (H : Hp) (s : Shared) (e : Value) (s' : Shared), CX w [] H s (fun _ _ _ => False) e s' -> False) :
    PySem.W.WalkOS q loose XP YP r d [] (fun f vs => PySem.call f vs) := by
  intro w s_0 s₁ mg mb G Y fa o pm cd doc dV kV ho hd hcd hD hmg hg args vals as hpre hlay hrd hwl hlo;obtain ⟨a, e1, e2⟩ := PySem.W.os_pre_some hpre;obtain ⟨e3, hwi⟩ := Codec.encAll_of_decAll r.args args a e1;subst e3;have KX := hY w _ Y;obtain ⟨fd, hb, hF⟩ := F w mg fa _ Y KX G.T.g hmg
  refine PySem.W.enter_call (codeAny_mono (spec_call (R := []) (cl := classAt s_0.heap) (d0 := r.ret.enc (Codec.app r.args r.f a)) KX G.T.g G.T.b G.T.builtins G.T.nolimit hg hwl (pl_encAll _ _) (layable_weight hlay) hr hF hb (by rw [encAll_len]; exact hlen)
    (fun H xs hO hS => hsp w H xs a hO hwi e2 hS) fun H e s' => hCX w H s₁ e s') fun r' s' hq => ?_)
  obtain ⟨u, as', rfl, h1, h2, h3, h4⟩ := hq;exact ⟨.inl ⟨u, _, as', rfl, fun _ => rfl, h1, (OpenSpec.post_iff hwell hwi _ _).mpr rfl, fun z => Bool.noConfusion (show false = true from z)⟩, h2, h3, h4⟩
theorem walk_specK {r : OpenSpec} {k : Nat} {q : Program} {loose : List Str} {XP : (Str -> Option Value) -> Heap -> Prop} {YP : World -> Heap -> Prop} {d : DefRec} {K : Params -> PySem.W.Frag} {CX : CXT} {ps : List Str} {sp : PySem.W.Frag -> Sp}
    (hwell : r.wellSaid = true) (hdf : d.params.defaults = []) (hlen : r.args.length = ps.length) (hr : Room k callerA)
    (hY : ∀ (w : World) (h : Heap), YP w h -> (K w.params).In h)
    (F : ∀ (w : World) (mg : Str -> Option Value) (fa : Addr) (h : Heap), YP w h -> (K w.params).In h -> h.Ns mainGlobals mg -> mg d.name = some (.ref fa) ->
      ∃ fd : FuncData, (∀ (s : Shared) (us : List Value), us.length = ps.length -> BindsTo s fd ⟨us, []⟩ (ps.zip us)) /\
        ∀ base : Heap, (K w.params).In base -> base.Ns mainGlobals mg -> FnOk r.prog w (K w.params) mg base CX k fa fd ps (sp (K w.params)))
    (hsp : ∀ (K : PySem.W.Frag) (H : Hp) (xs : List V) (a : Codec.denoteAll r.args), OnlyF H -> Codec.withinAll r.args a = true -> Codec.app r.args r.asked a = true -> DwAll K H xs (Codec.encAll r.args a) ->
      sp K xs H (fun v H' => Dw K H' v (r.ret.enc (Codec.app r.args r.f a))) fun _ _ _ => False)
    (hCX : ∀ (H : Hp) (s : Shared) (e : Value) (s' : Shared), CX [] H s (fun _ _ _ => False) e s' -> False) :
    PySem.W.WalkOS q loose XP YP r d [] (fun f vs => PySem.call f vs) :=
  walk_spec (K := K) (CX := fun _ => CX) (sp := fun w => sp (K w.params)) hwell hdf hlen hr hY F (fun w H xs a h1 h2 h3 h4 => hsp (K w.params) H xs a h1 h2 h3 h4) fun _ H s e s' => hCX H s e s'
end L2
end
namespace Zt
open PySem PySem.Spec PyProof.Rows L2
section
variable {prog : Program} {w : World} {A : Around} {E : Value -> Shared -> Prop} {s : Shared}
theorem nextT {b c : Addr} {n : Nat} {its : Array Value} {x : Value} {Q : Value -> Shared -> Prop} (g : IsTupIter s.heap b c n) (gt : IsTup s.heap c its) (gx : its[n]? = some x)
    (k : ∀ h', IsTupIter h' b c (n + 1) -> Heap.SameBut b s.heap h' -> Q x { s with heap := h' }) : wpAny (model prog w) A (Builtin.SmallTypes.nextOf (.ref b)) Q E s := by
  obtain ⟨ob, go, gc, gd⟩ := id g;obtain ⟨oc, gol, _, m, gdl⟩ := gt;unfold Builtin.SmallTypes.nextOf;refine wpAny_bind (wpAny_callSpecial?_slot (name := Str.ofString "__next__") g.typeIs slot_tupleiter_next (wpAny_call_entry slot_tupleiter_next g.typeIs entry_tupleiter_next ?_ (args_tupleiter_next _)));show wpAny _ _ (field (.ref b) 0 >>= _) _ _ s;refine wpAny_bind (wpAny_field go gd (x := .ref c) rfl ?_);show wpAny _ _ (if (Value.ref c == Value.none) = true then _ else _) _ _ s;rw [if_neg (show ¬ ((Value.ref c == Value.none) = true) from Bool.false_ne_true)];show wpAny _ _ (field (.ref b) 1 >>= _) _ _ s;refine wpAny_bind (wpAny_field go gd (x := .int n 0) rfl ?_);show wpAny _ _ (seqItems? (.ref c) >>= _) _ _ s;refine wpAny_bind (wpAny_seqItems gol gdl ?_);simp only [Int.toNat_natCast, gx];refine wpAny_bind (wpAny_setField go gd (by simp) (wpAny_pure ⟨x, rfl, wpAny_pure (k _ ?_ (Heap.SameBut.update ..))⟩));exact ⟨_, Heap.get?_update_self _ go (Obj.isFreed_of_fields (Obj.data_mapFields gd _)), (Obj.cls_mapFields ..).trans gc, by rw [Obj.data_mapFields gd]; simp [rawInt]⟩
theorem tupIter_at {h h' : Heap} {a t : Addr} {i : Nat} (x : IsTupIter h a t i) (e : ∀ o, h.get? a = some o -> h'.get? a = some o) : IsTupIter h' a t i := let ⟨o, ho, r⟩ := x; ⟨o, e _ ho, r⟩
theorem zipItem {z I O p q l t : Addr} {m n : Nat} {xs ys : Array Value} {x y a b : Value} {Q : Value -> Shared -> Prop} (D : ZipApart z I O p q l t)
    (gz : IsZip s.heap z I O .none) (gI : IsPair s.heap I (.ref p) (.ref q)) (gO : IsPair s.heap O a b) (g1 : s.heap.IsListIter p l m) (g2 : IsTupIter s.heap q t n) (gl : s.heap.IsList l xs) (gt : IsTup s.heap t ys) (gx : xs[m]? = some x) (gy : ys[n]? = some y)
    (k : ∀ h', IsZip h' z I O (rawInt s.heap.objs.size) -> IsPair h' O x y -> h'.IsListIter p l (m + 1) -> IsTupIter h' q t (n + 1) -> IsPair h' s.heap.objs.size x y -> h'.objs.size = s.heap.objs.size + 1 ->
      (∀ c o, c ≠ z -> c ≠ O -> c ≠ p -> c ≠ q -> s.heap.get? c = some o -> h'.get? c = some o) -> Q (.ref s.heap.objs.size) { s with heap := h' }) :
    wpAny (model prog w) A (Builtin.«zip.__next__» ⟨[.ref z], []⟩) (fun fin s' => ∃ v, fin = .done (.ret v) /\ Q v s') E s := by
  show wpAny _ _ (field (.ref z) 2 >>= _) _ _ _;refine wpAny_bind (wpAny_field gz rfl (x := .bool false) rfl ?_);show wpAny _ _ (field (.ref z) 3 >>= _) _ _ _;refine wpAny_bind (wpAny_field gz rfl (x := .ref I) rfl (wpAny_bind (wpAny_seqItems gI rfl ?_)));show wpAny _ _ (Builtin.SmallTypes.ownedTupleIsFree (.ref z) >>= _) _ _ _;refine wpAny_bind ?_
  (unfold Builtin.SmallTypes.ownedTupleIsFree; refine wpAny_bind (wpAny_field gz rfl (x := .none) rfl (wpAny_pure ?_)))
  simp only [if_true];refine wpAny_bind (wpAny_rule (wpAny_bind (wpAny_field gz rfl (x := .ref O) rfl (wpAny_bind (wpAny_setField_rec gz (by simp) fun h₁ gz₁ hs₁ => ?_)))))
  replace gz₁ : IsZip h₁ z I O .ellipsis := gz₁
  refine wpAny_bind ?_
  (simp only [List.zipIdx_cons, List.zipIdx_nil, List.forIn_cons, List.forIn_nil]; refine wpAny_bind (wpAny_bind (wpAny_onRaise ?_)))
  show wpAny _ _ (Builtin.SmallTypes.nextOf (.ref p) >>= _) _ _ _;refine wpAny_bind (wpAny_nextOf_list_item (g1.extBut hs₁.extBut D.i1z) (gl.extBut hs₁.extBut D.l1z) gx fun h₂ g1₂ hs₂ => wpAny_pure ?_);have gO₂ : IsPair h₂ O a b := hs₂.extBut _ _ D.TOi1 (hs₁.extBut _ _ D.TOz gO);refine wpAny_bind (wpAny_seqItems gO₂ rfl (wpAny_bind (wpAny_updateSeq_pair gO₂ fun h₃ gO₃ hs₃ => ?_)))
  replace gO₃ : IsPair h₃ O x b := gO₃
  (refine wpAny_bind (wpAny_letGo (wpAny_pure ?_)); refine wpAny_bind (wpAny_bind (wpAny_onRaise ?_)))
  show wpAny _ _ (Builtin.SmallTypes.nextOf (.ref q) >>= _) _ _ _;refine wpAny_bind (nextT (((g2.extBut hs₁.extBut D.i2z).extBut hs₂.extBut D.i12.symm).extBut hs₃.extBut D.TOi2.symm) (((gt.extBut hs₁.extBut D.l2z).extBut hs₂.extBut D.l2i1).extBut hs₃.extBut D.l2TO) gy fun h₄ g2₄ hs₄ => wpAny_pure ?_);have gO₄ : IsPair h₄ O x b := hs₄.extBut _ _ D.TOi2 gO₃;refine wpAny_bind (wpAny_seqItems gO₄ rfl (wpAny_bind (wpAny_updateSeq_pair gO₄ fun h₅ gO₅ hs₅ => ?_)))
  replace gO₅ : IsPair h₅ O x y := gO₅
  refine wpAny_bind (wpAny_letGo (wpAny_pure (wpAny_pure (wpAny_bind (wpAny_seqItems gO₅ rfl (wpAny_bind (wpAny_newTuple ?_)))))));have gsz : h₅.objs.size = s.heap.objs.size := by rw [hs₅.1, hs₄.1, hs₃.1, hs₂.1, hs₁.1]
  have gz₅ : IsZip h₅ z I O .ellipsis := hs₅.extBut _ _ D.TOz.symm (hs₄.extBut _ _ D.i2z.symm (hs₃.extBut _ _ D.TOz.symm (hs₂.extBut _ _ D.i1z.symm gz₁)));have gk₅ : ∀ c o, c ≠ z -> c ≠ O -> c ≠ p -> c ≠ q -> s.heap.get? c = some o -> h₅.get? c = some o := fun c o c1 c2 c3 c4 e => hs₅.extBut _ _ c2 (hs₄.extBut _ _ c4 (hs₃.extBut _ _ c2 (hs₂.extBut _ _ c3 (hs₁.extBut _ _ c1 e))))
  have g1₅ : h₅.IsListIter p l (m + 1) := ((g1₂.extBut hs₃.extBut D.TOi1.symm).extBut hs₄.extBut D.i12).extBut hs₅.extBut D.TOi1.symm;have g2₅ : IsTupIter h₅ q t (n + 1) := g2₄.extBut hs₅.extBut D.TOi2.symm;have gzlt : z < h₅.objs.size := Heap.lt_size gz₅;show wpAny _ _ (Builtin.SmallTypes.ownedTupleHandOut (.ref z) (.ref h₅.objs.size) >>= _) _ _ _
  (refine wpAny_bind ?_; unfold Builtin.SmallTypes.ownedTupleHandOut)
  have gz₆ : IsZip (h₅.push { cls := .type "tuple", data := .seq #[x, y] }) z I O .ellipsis := Heap.get?_push_of_some _ gz₅;refine wpAny_bind (wpAny_setField_rec gz₆ (by simp) fun h₇ gz₇ hs₇ => ?_)
  replace gz₇ : IsZip h₇ z I O (rawInt h₅.objs.size) := gz₇
  refine wpAny_setField_rec gz₇ (by simp) fun h₈ gz₈ hs₈ => ?_
  replace gz₈ : IsZip h₈ z I O (rawInt h₅.objs.size) := gz₈
  have up : ∀ c o, c ≠ z -> h₅.get? c = some o -> h₈.get? c = some o := fun c o c1 e => hs₈.extBut _ _ c1 (hs₇.extBut _ _ c1 (Heap.get?_push_of_some _ e))
  have gT₈ : IsPair h₈ h₅.objs.size x y := hs₈.extBut _ _ (Nat.ne_of_gt gzlt) (hs₇.extBut _ _ (Nat.ne_of_gt gzlt) (Heap.get?_push_size _ rfl));have gz8 : h₈.objs.size = h₅.objs.size + 1 := by rw [hs₈.1, hs₇.1, Heap.size_push]
  rw [gsz] at gz₈ gT₈ gz8;refine wpAny_pure ⟨_, rfl, ?_⟩;show Q (.ref h₅.objs.size) _;rw [gsz];exact k h₈ gz₈ (up _ _ D.TOz gO₅) (g1₅.at fun o e => up _ o D.i1z e) (tupIter_at g2₅ fun o e => up _ o D.i2z e) gT₈ gz8 fun c o c1 c2 c3 c4 e => up c o c1 (gk₅ c o c1 c2 c3 c4 e)
theorem zipEnd {z I O p q l t : Addr} {m n : Nat} {xs : Array Value} {a b : Value} {Q : Fin -> Shared -> Prop} (hh : A.handled = none) (D : ZipApart z I O p q l t)
    (gz : IsZip s.heap z I O .none) (gI : IsPair s.heap I (.ref p) (.ref q)) (gO : IsPair s.heap O a b) (g1 : s.heap.IsListIter p l m) (gl : s.heap.IsList l xs) (gx : xs[m]? = none)
    (k : ∀ h' e, (∀ c o, c ≠ z -> c ≠ O -> c ≠ p -> c ≠ q -> s.heap.get? c = some o -> h'.get? c = some o) -> (∃ o, h'.get? e = some o /\ o.cls = .type "StopIteration") -> E (.ref e) { s with heap := h' }) :
    wpAny (model prog w) A (Builtin.«zip.__next__» ⟨[.ref z], []⟩) Q E s := by
  show wpAny _ _ (field (.ref z) 2 >>= _) _ _ _;refine wpAny_bind (wpAny_field gz rfl (x := .bool false) rfl ?_);show wpAny _ _ (field (.ref z) 3 >>= _) _ _ _;refine wpAny_bind (wpAny_field gz rfl (x := .ref I) rfl (wpAny_bind (wpAny_seqItems gI rfl ?_)));show wpAny _ _ (Builtin.SmallTypes.ownedTupleIsFree (.ref z) >>= _) _ _ _;refine wpAny_bind ?_
  (unfold Builtin.SmallTypes.ownedTupleIsFree; refine wpAny_bind (wpAny_field gz rfl (x := .none) rfl (wpAny_pure ?_)))
  simp only [if_true];refine wpAny_bind (wpAny_rule (wpAny_bind (wpAny_field gz rfl (x := .ref O) rfl (wpAny_bind (wpAny_setField_rec gz (by simp) fun h₁ gz₁ hs₁ => ?_)))))
  replace gz₁ : IsZip h₁ z I O .ellipsis := gz₁
  refine wpAny_bind ?_
  (simp only [List.zipIdx_cons, List.zipIdx_nil, List.forIn_cons, List.forIn_nil]; refine wpAny_bind (wpAny_bind (wpAny_onRaise ?_)))
  show wpAny _ _ (Builtin.SmallTypes.nextOf (.ref p) >>= _) _ _ _;refine wpAny_bind (wpAny_nextOf_list_end hh (g1.extBut hs₁.extBut D.i1z) (gl.extBut hs₁.extBut D.l1z) gx fun h₂ e hs₂ he => ?_);obtain ⟨oe, hoe, hce⟩ := he;have gz₂ : IsZip h₂ z I O .ellipsis := hs₂ _ _ D.i1z.symm gz₁;have hez : e ≠ z := fun x => by subst x; rw [gz₂] at hoe; cases hoe; simp at hce
  refine wpAny_setField_rec gz₂ (by simp) fun h₃ _ hs₃ => k h₃ e (fun c o c1 _ c3 _ x => hs₃.extBut _ _ c1 (hs₂ _ _ c3 (hs₁.extBut _ _ c1 x))) ⟨oe, hs₃.extBut _ _ hez hoe, hce⟩
theorem nextZip {z I O p q l t : Addr} {m n : Nat} {xs ys : Array Value} {x y a b : Value} {Q : Option Value -> Shared -> Prop} (D : ZipApart z I O p q l t)
    (gz : IsZip s.heap z I O .none) (gI : IsPair s.heap I (.ref p) (.ref q)) (gO : IsPair s.heap O a b) (g1 : s.heap.IsListIter p l m) (g2 : IsTupIter s.heap q t n) (gl : s.heap.IsList l xs) (gt : IsTup s.heap t ys) (gx : xs[m]? = some x) (gy : ys[n]? = some y)
    (k : ∀ h', IsZip h' z I O (rawInt s.heap.objs.size) -> IsPair h' O x y -> h'.IsListIter p l (m + 1) -> IsTupIter h' q t (n + 1) -> IsPair h' s.heap.objs.size x y -> h'.objs.size = s.heap.objs.size + 1 ->
      (∀ c o, c ≠ z -> c ≠ O -> c ≠ p -> c ≠ q -> s.heap.get? c = some o -> h'.get? c = some o) -> Q (some (.ref s.heap.objs.size)) { s with heap := h' }) :
    wpAny (model prog w) A (pyNext (.ref z)) Q E s := by
  have gT : s.TypeIs (.ref z) "zip" := ⟨_, gz, rfl⟩;unfold pyNext
  exact wpAny_bind (wpAny_attempt (wpAny_callSpecial?_slot (name := Str.ofString "__next__") gT F.slot_zip_next (wpAny_call_entry F.slot_zip_next gT F.entry_zip_next
      (zipItem D gz gI gO g1 g2 gl gt gx gy fun h' a1 a2 a3 a4 a5 a6 a7 => wpAny_pure (k h' a1 a2 a3 a4 a5 a6 a7)) (F.args_zip_next_1 _))))
theorem nextEnd {z I O p q l t : Addr} {m : Nat} {xs : Array Value} {a b : Value} {Q : Option Value -> Shared -> Prop} (hh : A.handled = none) (D : ZipApart z I O p q l t)
    (gz : IsZip s.heap z I O .none) (gI : IsPair s.heap I (.ref p) (.ref q)) (gO : IsPair s.heap O a b) (g1 : s.heap.IsListIter p l m) (gl : s.heap.IsList l xs) (gx : xs[m]? = none)
    (k : ∀ h', (∀ c o, c ≠ z -> c ≠ O -> c ≠ p -> c ≠ q -> s.heap.get? c = some o -> h'.get? c = some o) -> Q none { s with heap := h' }) : wpAny (model prog w) A (pyNext (.ref z)) Q E s := by
  have gT : s.TypeIs (.ref z) "zip" := ⟨_, gz, rfl⟩;unfold pyNext;refine wpAny_bind (wpAny_attempt (wpAny_callSpecial?_slot (name := Str.ofString "__next__") gT F.slot_zip_next (wpAny_call_entry F.slot_zip_next gT F.entry_zip_next (zipEnd (n := 0) hh D gz gI gO g1 gl gx fun h' e hk he => ?_) (F.args_zip_next_1 _))));obtain ⟨o, ho, hc⟩ := he;exact wpAny_bind (wpAny_isInstance (T := "StopIteration") (b := true) ⟨o, ho, hc⟩ isSubtype_stop (wpAny_pure (k _ hk)))
end
abbrev zH1 (h : Heap) (l : Addr) : Heap := h.push { cls := .type "list_iterator", data := .fields #[.ref l, .int 0 0] }
abbrev zH2 (h : Heap) (l t : Addr) : Heap := (zH1 h l).push { cls := .type "tuple_iterator", data := .fields #[.ref t, .int 0 0] }
abbrev zH3 (h : Heap) (l t : Addr) : Heap := (zH2 h l t).push { cls := .type "tuple", data := .seq #[.ref h.objs.size, .ref (zH1 h l).objs.size] }
abbrev zH4 (h : Heap) (l t : Addr) : Heap := (zH3 h l t).push { cls := .type "tuple", data := .seq #[.none, .none] }
abbrev zH5 (h : Heap) (l t : Addr) : Heap := (zH4 h l t).push { cls := .type "zip", data := .fields #[.none, .bool false, .bool false, .ref (zH2 h l t).objs.size, .ref (zH3 h l t).objs.size] }
theorem zipNew (l t : Addr) (xs ys : Array Value) :
    Meets (Builtin.«zip.__new__» ⟨[.type "zip", .ref l, .ref t], []⟩) (fun _ R s => s.heap.IsList l xs /\ IsTup s.heap t ys /\ R (.ok (.ret (.ref (zH4 s.heap l t).objs.size))) { s with heap := zH5 s.heap l t }) :=
  .of_wp fun prog w A R s h => by
    obtain ⟨hp, g, d, tk, os⟩ := s; obtain ⟨gl, gt, h⟩ := h;have hsub := sub_zip;have gL : Heap.IsList (Shared.heap ⟨hp, g, d, tk, os⟩) l xs := gl;have gT : IsTup (Shared.heap ⟨hp.push { cls := .type "list_iterator", data := .fields #[.ref l, .int 0 0] }, g, d, tk, os⟩) t ys := IsTup.push gt _
    wp_walk using wpAny_pyIter_list gL, PyProof.Rows.iter_tuple gT
    exact ⟨_, rfl, h⟩
section
variable {prog : Program} {w : World} {A : Around} {E : Value -> Shared -> Prop} {s : Shared}
theorem callZip {l t : Addr} {xs ys : Array Value} {Q : Value -> Shared -> Prop} (gl : s.heap.IsList l xs) (gt : IsTup s.heap t ys)
    (k : ∀ h', IsZip h' (s.heap.objs.size + 4) (s.heap.objs.size + 2) (s.heap.objs.size + 3) .none -> IsPair h' (s.heap.objs.size + 2) (.ref s.heap.objs.size) (.ref (s.heap.objs.size + 1)) -> IsPair h' (s.heap.objs.size + 3) .none .none ->
      h'.IsListIter s.heap.objs.size l 0 -> IsTupIter h' (s.heap.objs.size + 1) t 0 -> h'.objs.size = s.heap.objs.size + 5 -> (∀ c o, s.heap.get? c = some o -> h'.get? c = some o) -> Q (.ref (s.heap.objs.size + 4)) { s with heap := h' }) :
    wpAny (model prog w) A (call (.type "zip") [.ref l, .ref t]) Q E s := by
  refine callType_new F.called_zip (by decide) (F.typeCall_zip_2 _ _) (F.newCall_zip_2 _ _) (fun obj => F.args_object_init_3 obj _ _) F.entry_zip_new (zipNew l t xs ys) ⟨gl, gt, ?_⟩;have z1 : (zH1 s.heap l).objs.size = s.heap.objs.size + 1 := Heap.size_push ..;have z2 : (zH2 s.heap l t).objs.size = s.heap.objs.size + 2 := by rw [Heap.size_push, z1]
  have z3 : (zH3 s.heap l t).objs.size = s.heap.objs.size + 3 := by rw [Heap.size_push, z2]
  have z4 : (zH4 s.heap l t).objs.size = s.heap.objs.size + 4 := by rw [Heap.size_push, z3]
  have z5 : (zH5 s.heap l t).objs.size = s.heap.objs.size + 5 := by rw [Heap.size_push, z4]
  have u5 : (zH5 s.heap l t).get? (zH4 s.heap l t).objs.size = some _ := Heap.get?_push_size _ rfl;have u4 : (zH5 s.heap l t).get? (zH3 s.heap l t).objs.size = some _ := Heap.get?_push_of_some _ (Heap.get?_push_size _ rfl);have u3 : (zH5 s.heap l t).get? (zH2 s.heap l t).objs.size = some _ := Heap.get?_push_of_some _ (Heap.get?_push_of_some _ (Heap.get?_push_size _ rfl));have u2 : (zH5 s.heap l t).get? (zH1 s.heap l).objs.size = some _ := Heap.get?_push_of_some _ (Heap.get?_push_of_some _ (Heap.get?_push_of_some _ (Heap.get?_push_size _ rfl)));have u1 : (zH5 s.heap l t).get? s.heap.objs.size = some _ := Heap.get?_push_of_some _ (Heap.get?_push_of_some _ (Heap.get?_push_of_some _ (Heap.get?_push_of_some _ (Heap.get?_push_size _ rfl))));show _ /\ _;rw [z2, z3, z4] at u5;rw [z1, z2] at u3;rw [z3] at u4;rw [z1] at u2;rw [z4];exact ⟨⟨_, u5, rfl⟩, k _ u5 u3 u4 ⟨_, u1, rfl, rfl⟩ ⟨_, u2, rfl, rfl⟩ z5 fun c o x => Heap.get?_push_of_some _ (Heap.get?_push_of_some _ (Heap.get?_push_of_some _ (Heap.get?_push_of_some _ (Heap.get?_push_of_some _ x))))⟩
end
def Jzt (K : PySem.W.Frag) (a b : Addr) : It :=
  ⟨fun i H => ∃ (xs ys : List V) (x y : V), SqL K H a xs /\ SqT K H b ys /\ xs[i]? = some x /\ ys[i]? = some y,
    fun i H v H' => ∃ T x y, v = .ref T /\ H T = none /\ H' = upd H T (.tup [x, y]) /\ (∀ xs, SqL K H a xs -> xs[i]? = some x) /\ ∀ ys, SqT K H b ys -> ys[i]? = some y,
    fun i H => ∃ xs : List V, SqL K H a xs /\ xs.length <= i⟩
theorem turnZt {P : Program} {w : World} {K : PySem.W.Frag} {elts : List Expr} {kk : Nat} {tpos : Pos} {a b z I O p q : Addr} (D : ZipApart z I O p q a b) :
    Turn P w K (.Tuple elts kk tpos) (Jzt K a b) [z, I, O, p, q] z (fun i h => IsZip h z I O .none /\ IsPair h I (.ref p) (.ref q) /\ (∃ x y, IsPair h O x y) /\ h.IsListIter p a i /\ IsTupIter h q b i) where
  mem := by simp
  obj := fun i h st c hc => by
    obtain ⟨gz, gI, ⟨x, y, gO⟩, ⟨o1, e1, _, d1⟩, ⟨o2, e2, _, d2⟩⟩ := st;have e' : c = z \/ c = I \/ c = O \/ c = p \/ c = q := by simpa using hc
    rcases e' with r | r | r | r | r
    · rw [r]; exact ⟨_, gz, fun v r => nomatch r⟩
    · rw [r]; exact ⟨_, gI, fun v r => nomatch r⟩
    · rw [r]; exact ⟨_, gO, fun v r => nomatch r⟩
    · rw [r]; exact ⟨o1, e1, fun v r => by rw [d1] at r; cases r⟩
    · rw [r]; exact ⟨o2, e2, fun v r => by rw [d2] at r; cases r⟩
  keep := fun i h h' st k => by
    obtain ⟨gz, gI, ⟨x, y, gO⟩, g1, g2⟩ := st;exact ⟨k z (by simp) _ gz, k I (by simp) _ gI, ⟨x, y, k O (by simp) _ gO⟩, g1.at fun o r => k p (by simp) o r, tupIter_at g2 fun o r => k q (by simp) o r⟩
  item := by
    intro X hP hw hK hc i pins s σ H E In hf st hg;subst hP hw hK;obtain ⟨gz, gI, ⟨x0, y0, gO⟩, g1, g2⟩ := st;obtain ⟨xs, ys, x, y, hqx, hqy, hx, hy⟩ := hg;obtain ⟨its, rv, pl, _⟩ := In.list hqx;obtain ⟨its2, rv2, pt, _⟩ := In.tuple hqy;obtain ⟨u, hu, ru⟩ := rv.get hx;obtain ⟨u2, hu2, ru2⟩ := rv2.get hy;have hzl : z < s.heap.objs.size := Heap.lt_size gz;refine nextZip D gz gI gO g1 g2 pl.isList pt (x := u) (y := u2) (by simpa using hu) (by simpa using hu2) fun h' z' TO' h1' h2' hT hsz hk => ?_
    refine ⟨_, rfl, wpAny_letOwnedTupleGo_zip (s := { s with heap := h' }) z' fun h'' z'' sb => ?_⟩;have hT2 : h''.get? s.heap.objs.size = some { cls := .type "tuple", data := .seq #[u, u2] } := (sb.2 _ (Nat.ne_of_gt hzl)).trans hT;have new : Q7 X.prog X.w (upd H s.heap.objs.size (.tup [x, y])) h'' s.heap.objs.size (.tup [x, y]) := ⟨by show 2 <= sizeLine; decide, [u, u2], .cons ru (.cons ru2 .nil), ⟨_, hT2, rfl, _, rfl⟩⟩
    have I1 : Inv X pins σ (upd H s.heap.objs.size (.tup [x, y])) { s with heap := h'' } :=
      In.turnedNew (t' := s.toks) (ch := [z, I, O, p, q]) (fun c o hb r => (sb.2 c (fun r' => hb (by simp [r']))).trans (hk c o (fun r' => hb (by simp [r'])) (fun r' => hb (by simp [r'])) (fun r' => hb (by simp [r'])) (fun r' => hb (by simp [r'])) r)) hf (Nat.le_refl _) new
    refine ⟨.ref s.heap.objs.size, _, I1, rfl, ⟨_, x, y, rfl, In.hok.fresh (Nat.le_refl _), rfl, fun l hl => by rw [In.list_inj hl hqx]; exact hx, fun l hl => by rw [In.tuple_inj hl hqy]; exact hy⟩, ⟨z'', ?_, ⟨u, u2, ?_⟩, ?_, ?_⟩, fun c hcm => ?_⟩
    · exact (sb.2 _ D.TIz).trans (hk _ _ D.TIz D.TITO D.TIi1 D.TIi2 gI)
    · exact (sb.2 _ D.TOz).trans TO'
    · exact h1'.at fun o r => (sb.2 _ D.i1z).trans r
    · exact tupIter_at h2' fun o r => (sb.2 _ D.i2z).trans r
    · have hlt : c < s.heap.objs.size := by
        have e' : c = z \/ c = I \/ c = O \/ c = p \/ c = q := by simpa using hcm
        rcases e' with r | r | r | r | r
        · rw [r]; exact hzl
        · rw [r]; exact Heap.lt_size gI
        · rw [r]; exact Heap.lt_size gO
        · rw [r]; obtain ⟨_, e1, _⟩ := g1; exact Heap.lt_size e1
        · rw [r]; obtain ⟨_, e2, _⟩ := g2; exact Heap.lt_size e2
      rw [y9 (Nat.ne_of_lt hlt)];exact (hf c hcm).1
  done := by
    intro X hP hw hK hc i pins s σ H E In hf st hg;subst hP hw hK;obtain ⟨gz, gI, ⟨x0, y0, gO⟩, g1, g2⟩ := st;obtain ⟨xs, hqx, hend⟩ := hg;obtain ⟨its, rv, pl, _⟩ := In.list hqx;have l1 := rv.length
    exact nextEnd (In.ok.hd hc) D gz gI gO g1 pl.isList (by simp; omega) fun h' hk => ⟨rfl, In.turnedL (t' := s.toks) (ch := [z, I, O, p, q]) (fun c o hb r =>
      hk c o (fun r' => hb (by simp [r'])) (fun r' => hb (by simp [r'])) (fun r' => hb (by simp [r'])) (fun r' => hb (by simp [r'])) r) hf⟩
  self := fun A i s Q E st h => wpAny_pyIter_zip st.1 h
def iZt (K : PySem.W.Frag) (ta : TA) : TI := fun σ H R => ta σ H fun vs H1 => ∃ a b xs ys, vs = [.ref a, .ref b] /\ SqL K H1 a xs /\ SqT K H1 b ys /\ R (Jzt K a b) H1
theorem pi_zt {X : Cx} {e e2 : Expr} {ta : TA} {p pos tpos : Pos} {elts : List Expr} {kk : Nat} (hg : Gl X "zip") (hm : X.mg "zip" = none) (ha : PA X [e, e2] ta)
    (hs : starEach [e, e2] X.env = (false, eval e X.env) :: starEach [e2] X.env := by rfl) (hpl : (backTo pos (starEach [e2] X.env)).any (·.1) = false := by rfl) :
    PI X (.Tuple elts kk tpos) (.Call (.Name "zip" p) [e, e2] [] pos) (iZt X.K ta) := by
  intro pins s σ H R In h;refine Call_ (ld_blt In hg hm boot_zip5 (PyProof.Rows.callWith_type1 (thn (ha pos pins s σ H _ In h) fun us s1 ⟨vs, H1, I1, r1, q1⟩ => ?_) hs hpl));obtain ⟨a, b, xs, ys, ex, hqx, hqy, q⟩ := q1;subst ex;cases r1 with
  | cons r rr =>
    cases rr with
    | cons r' rr =>
      cases rr;cases r;cases r';obtain ⟨its, rv, p1, _⟩ := I1.list hqx;obtain ⟨its2, rv2, p2, _⟩ := I1.tuple hqy;have la : a < s1.heap.objs.size := p1.lt;have lb : b < s1.heap.objs.size := p2.lt;refine callZip p1.isList p2 fun h' hz hTI hTO h1 h2 hsz hk => wpAny_pyIter_zip hz ?_
      have I2 : Inv X pins σ H1 { s1 with heap := h' } := I1.kept (t' := s1.toks) hk;refine ⟨s1.heap.objs.size + 4, [s1.heap.objs.size + 4, s1.heap.objs.size + 2, s1.heap.objs.size + 3, s1.heap.objs.size, s1.heap.objs.size + 1], _, _, H1, rfl, I2, turnZt (PySem.W.ktu_apart s1.heap.objs.size a b la lb), ⟨hz, hTI, ⟨_, _, hTO⟩, h1, h2⟩, fun c hcm => ?_, q⟩;have e' : c = s1.heap.objs.size + 4 \/ c = s1.heap.objs.size + 2 \/ c = s1.heap.objs.size + 3 \/ c = s1.heap.objs.size \/ c = s1.heap.objs.size + 1 := by simpa using hcm
      have hle : s1.heap.objs.size <= c := by
        rcases e' with r | r | r | r | r
        · rw [r]; exact Nat.le_add_right _ _
        · rw [r]; exact Nat.le_add_right _ _
        · rw [r]; exact Nat.le_add_right _ _
        · rw [r]; exact Nat.le_refl _
        · rw [r]; exact Nat.le_add_right _ _
      exact I1.fpOk hle (I1.hok.fresh hle)
end Zt
namespace My
open Sv20
theorem begun_is : begun = [0x6a09e667, 0xbb67ae85, 0x3c6ef372, 0xa54ff53a, 0x510e527f, 0x9b05688c, 0x1f83d9ab, 0x5be0cd19] := by decide +kernel
theorem rounds_is : rounds = [0x428a2f98, 0x71374491, 0xb5c0fbcf, 0xe9b5dba5, 0x3956c25b, 0x59f111f1, 0x923f82a4, 0xab1c5ed5, 0xd807aa98, 0x12835b01, 0x243185be, 0x550c7dc3, 0x72be5d74, 0x80deb1fe, 0x9bdc06a7, 0xc19bf174, 0xe49b69c1, 0xefbe4786, 0x0fc19dc6, 0x240ca1cc, 0x2de92c6f, 0x4a7484aa, 0x5cb0a9dc, 0x76f988da, 0x983e5152, 0xa831c66d, 0xb00327c8, 0xbf597fc7, 0xc6e00bf3, 0xd5a79147, 0x06ca6351, 0x14292967, 0x27b70a85, 0x2e1b2138, 0x4d2c6dfc, 0x53380d13, 0x650a7354, 0x766a0abb, 0x81c2c92e, 0x92722c85, 0xa2bfe8a1, 0xa81a664b, 0xc24b8b70, 0xc76c51a3, 0xd192e819, 0xd6990624, 0xf40e3585, 0x106aa070, 0x19a4c116, 0x1e376c08, 0x2748774c, 0x34b0bcb5, 0x391c0cb3, 0x4ed8aa4a, 0x5b9cca4f, 0x682e6ff3, 0x748f82ee, 0x78a5636f, 0x84c87814, 0x8cc70208, 0x90befffa, 0xa4506ceb, 0xbef9a3f7, 0xc67178f2] := by decide +kernel
theorem turn_bits {x k : Nat} (hx : x < 4294967296) (hk : k <= 32) : Nat.land (Nat.lor (x / 2 ^ k) (x * 2 ^ (32 - k))) 4294967295 = turn k x := by
  have e0 : (2 : Nat) ^ k * 2 ^ (32 - k) = 4294967296 := by rw [<- Nat.pow_add, show k + (32 - k) = 32 by omega]
  have e1 : x / 2 ^ k < 2 ^ (32 - k) := Nat.div_lt_of_lt_mul (by rw [e0]; exact hx);have e2 : 2 ^ (32 - k) * x + x / 2 ^ k = 2 ^ (32 - k) * x ||| x / 2 ^ k := Nat.two_pow_add_eq_or_of_lt e1 x
  have e3 : Nat.lor (x / 2 ^ k) (x * 2 ^ (32 - k)) = x / 2 ^ k + x * 2 ^ (32 - k) := by
    show x / 2 ^ k ||| x * 2 ^ (32 - k) = _;rw [Nat.or_comm, Nat.mul_comm x, <- e2, Nat.add_comm]
  rw [e3];exact Nat.and_two_pow_sub_one_eq_mod (x / 2 ^ k + x * 2 ^ (32 - k)) 32
theorem mask32 (x : Nat) : Nat.land x 4294967295 = word x := Nat.and_two_pow_sub_one_eq_mod x 32
theorem mask8 (x : Nat) : Nat.land x 255 = x % 256 := Nat.and_two_pow_sub_one_eq_mod x 8
theorem word_lt (x : Nat) : word x < 4294967296 := Nat.mod_lt _ (by decide)
theorem three_is (a b c : Nat) : Nat.xor (Nat.xor a b) c = three a b c := Nat.xor_assoc a b c
theorem flip_is {e : Nat} (h : e < 4294967296) : Nat.xor e 4294967295 = 2 ^ 32 - 1 - e := by
  have h1 : e &&& 4294967295 = e := by
    have := mask32 e;exact this.trans (Nat.mod_eq_of_lt h)
  refine Nat.eq_of_testBit_eq fun i => ?_
  show (e ^^^ (2 ^ 32 - 1)).testBit i = (2 ^ 32 - 1 - e).testBit i;have q : 2 ^ 32 - 1 - e = 2 ^ 32 - (e + 1) := by omega
  rw [q, Nat.testBit_two_pow_sub_succ h, Nat.testBit_xor, Nat.testBit_two_pow_sub_one];by_cases hi : i < 32
  · simp [hi]
  · have hl : e < 2 ^ i := Nat.lt_of_lt_of_le (show e < 2 ^ 32 from h) (Nat.pow_le_pow_right (by decide) (by omega));simp [hi, Nat.testBit_lt_two_pow hl]
theorem ofBig4 {a b c d : Nat} (ha : a < 256) (hb : b < 256) (hc : c < 256) (hd : d < 256) :
    Nat.lor (Nat.lor (Nat.lor (a * 2 ^ 24) (b * 2 ^ 16)) (c * 2 ^ 8)) d = ofBig [a, b, c, d] := by
  have e1 : Nat.lor (a * 2 ^ 24) (b * 2 ^ 16) = 2 ^ 16 * (256 * a + b) := by
    have := Nat.two_pow_add_eq_or_of_lt (i := 24) (b := b * 2 ^ 16) (by omega) a;rw [Nat.mul_comm] at this;show a * 2 ^ 24 ||| b * 2 ^ 16 = _;rw [<- this]; omega
  rw [e1]
  have e2 : Nat.lor (2 ^ 16 * (256 * a + b)) (c * 2 ^ 8) = 2 ^ 8 * (256 * (256 * a + b) + c) := by
    have := Nat.two_pow_add_eq_or_of_lt (i := 16) (b := c * 2 ^ 8) (by omega) (256 * a + b);show 2 ^ 16 * (256 * a + b) ||| c * 2 ^ 8 = _;rw [<- this]; omega
  rw [e2];have e3 := Nat.two_pow_add_eq_or_of_lt (i := 8) (b := d) (by omega) (256 * (256 * a + b) + c);show 2 ^ 8 * (256 * (256 * a + b) + c) ||| d = _;rw [<- e3];simp only [ofBig, List.foldl_cons, List.foldl_nil];omega
theorem ofBig4_lt {a b c d : Nat} (ha : a < 256) (hb : b < 256) (hc : c < 256) (hd : d < 256) : ofBig [a, b, c, d] < 4294967296 := by
  simp only [ofBig, List.foldl_cons, List.foldl_nil];omega
theorem take_get {α : Type} : ∀ {l : List α} {i : Nat} {x : α}, l[i]? = some x -> l.take (i + 1) = l.take i ++ [x] := by
  intro l i x h;rw [List.take_add_one, h];rfl
theorem big_len (k n : Nat) : (big k n).length = k := by simp [big, little]
theorem big_get {k n i : Nat} (h : i < k) : (big k n)[i]? = some (n / 256 ^ (k - 1 - i) % 256) := by
  unfold big little;rw [List.getElem?_reverse (by simpa using h), List.length_map, List.length_range, List.getElem?_map, List.getElem?_range (by omega)];rfl
theorem big_lt {k n x : Nat} (h : x ∈ big k n) : x < 256 := by
  unfold big little at h;rw [List.mem_reverse, List.mem_map] at h;obtain ⟨i, _, rfl⟩ := h;exact Nat.mod_lt _ (by decide)
def ws1 (b : List Nat) (i : Nat) : List Nat := (List.range i).map fun j => ofBig (slice b (4 * j) 4)
theorem ws1_succ (b : List Nat) (i : Nat) : ws1 b (i + 1) = ws1 b i ++ [ofBig (slice b (4 * i) 4)] := by
  unfold ws1;rw [List.range_succ, List.map_append];rfl
theorem ws1_len (b : List Nat) (i : Nat) : (ws1 b i).length = i := by simp [ws1]
theorem slice4 {b : List Nat} {i : Nat} {p q r s : Nat} (h0 : b[4 * i]? = some p) (h1 : b[4 * i + 1]? = some q) (h2 : b[4 * i + 2]? = some r) (h3 : b[4 * i + 3]? = some s) : slice b (4 * i) 4 = [p, q, r, s] := by
  unfold slice
  have d : ∀ {j : Nat} {v : Nat}, b[j]? = some v -> b.drop j = v :: b.drop (j + 1) := fun {j v} h => by
    obtain ⟨hj, e⟩ := List.getElem?_eq_some_iff.mp h;rw [List.drop_eq_getElem_cons hj, e]
  rw [d h0, d h1, d h2, d h3];rfl
def grow (w : List Nat) : List Nat := w ++ [word (three (turn 17 (w.getD (w.length - 2) 0)) (turn 19 (w.getD (w.length - 2) 0)) (w.getD (w.length - 2) 0 / 2 ^ 10) + w.getD (w.length - 7) 0 + three (turn 7 (w.getD (w.length - 15) 0)) (turn 18 (w.getD (w.length - 15) 0)) (w.getD (w.length - 15) 0 / 2 ^ 3) + w.getD (w.length - 16) 0)]
def ws2 (w : List Nat) : Nat -> List Nat
  | 0 => w
  | i + 1 => grow (ws2 w i)
theorem ws2_len (w : List Nat) : ∀ i, (ws2 w i).length = w.length + i
  | 0 => rfl
  | i + 1 => by
    show (ws2 w i ++ [_]).length = _;rw [List.length_append, ws2_len w i]; rfl
theorem sched_is (w : List Nat) : schedule w = ws2 w 48 := by
  have h : ∀ n, (List.range n).foldl (fun w _ => grow w) w = ws2 w n := by
    intro n
    induction n with
    | zero => rfl
    | succ n ih => rw [List.range_succ, List.foldl_append, ih]; rfl
  exact h 48
theorem getD_of {w : List Nat} {j v : Nat} (h : w[j]? = some v) : w.getD j 0 = v := by
  rw [List.getD_eq_getElem?_getD, h]; rfl
theorem grow_is {w : List Nat} {n a2 a7 a15 a16 : Nat} (hn : w.length = n) (h2 : w[n - 2]? = some a2) (h7 : w[n - 7]? = some a7) (h15 : w[n - 15]? = some a15) (h16 : w[n - 16]? = some a16) :
    grow w = w ++ [word (three (turn 17 a2) (turn 19 a2) (a2 / 2 ^ 10) + a7 + three (turn 7 a15) (turn 18 a15) (a15 / 2 ^ 3) + a16)] := by
  subst hn;unfold grow;rw [getD_of h2, getD_of h7, getD_of h15, getD_of h16]
def runs (s ws : List Nat) (i : Nat) : List Nat := ((rounds.zip ws).take i).foldl (fun s x => step s x.1 x.2) s
theorem runs_succ {s ws : List Nat} {i k w : Nat} (hk : rounds[i]? = some k) (hw : ws[i]? = some w) : runs s ws (i + 1) = step (runs s ws i) k w := by
  unfold runs;rw [take_get (x := (k, w)) (by rw [List.getElem?_zip_eq_some]; exact ⟨hk, hw⟩), List.foldl_append];rfl
theorem rounds_len : rounds.length = 64 := by rw [rounds_is]; rfl
theorem block_is {s b : List Nat} : block s b = (s.zip (runs s (ws2 (ws1 b 16) 48) 64)).map fun x => word (x.1 + x.2) := by
  unfold block;rw [sched_is]
  have e : (rounds.zip (ws2 (ws1 b 16) 48)).take 64 = rounds.zip (ws2 (ws1 b 16) 48) := by
    refine List.take_of_length_le ?_;rw [List.length_zip, ws2_len, ws1_len, rounds_len];decide
  show (s.zip ((rounds.zip (ws2 (ws1 b 16) 48)).foldl (fun s x => step s x.1 x.2) s)).map _ = _;unfold runs;rw [e]
theorem block_lt {s b : List Nat} : ∀ x ∈ block s b, x < 4294967296 := by
  intro x hx;rw [block_is] at hx;obtain ⟨p, _, rfl⟩ := List.mem_map.mp hx;exact word_lt _
theorem step_is {a b c d e f g h k w X1 C F Y M : Nat} (he : e < 4294967296) (hX : X1 = three (turn 6 e) (turn 11 e) (turn 25 e)) (hC : C = Nat.xor (Nat.land e f) (Nat.land (Nat.xor e 4294967295) g)) (hF : F = h + X1 + C + k + w)
    (hY : Y = three (turn 2 a) (turn 13 a) (turn 22 a)) (hM : M = three (Nat.land a b) (Nat.land a c) (Nat.land b c)) :
    step [a, b, c, d, e, f, g, h] k w = [word (F + Y + M), a, b, c, word (d + F), e, f, g] := by
  subst hX hC hF hY hM;rw [flip_is he];show [word (word _ + word _), a, b, c, word (d + word _), e, f, g] = _;unfold word
  congr 1
  · omega
  · congr 4
    omega
def pad (b : List Nat) : List Nat := b ++ (0x80 :: (List.replicate ((119 - b.length % 64) % 64) 0 ++ big 8 (8 * b.length)))
theorem pad_len (b : List Nat) : (pad b).length % 64 = 0 := by
  unfold pad;rw [List.length_append, List.length_cons, List.length_append, List.length_replicate, big_len];omega
theorem pad_le (b : List Nat) : (pad b).length <= b.length + 72 := by
  unfold pad;rw [List.length_append, List.length_cons, List.length_append, List.length_replicate, big_len];omega
theorem pad_lt {b : List Nat} (h : ∀ x ∈ b, x < 256) : ∀ x ∈ pad b, x < 256 := by
  intro x hx;unfold pad at hx;rcases List.mem_append.mp hx with q | q
  · exact h x q
  · rcases List.mem_cons.mp q with q | q
    · subst q; decide
    · rcases List.mem_append.mp q with q | q
      · rw [(List.mem_replicate.mp q).2]; decide
      · exact big_lt q
theorem pieces_is : ∀ (n f : Nat) (b : List Nat), b.length = 64 * n -> n <= f -> pieces f 64 b = (List.range n).map fun i => slice b (64 * i) 64
  | 0, f, b, h, _ => by
    have e : b = [] := List.eq_nil_of_length_eq_zero (by omega);subst e;cases f <;> simp [pieces]
  | n + 1, 0, b, _, hf => by omega
  | n + 1, f + 1, b, h, hf => by
    have ne : ¬ b = [] := fun e => by subst e; simp at h
    show (if b = [] then [] else b.take 64 :: pieces f 64 (b.drop 64)) = _;rw [if_neg ne, pieces_is n f (b.drop 64) (by rw [List.length_drop]; omega) (by omega), List.range_succ_eq_map, List.map_cons, List.map_map]
    congr 1
    refine List.map_congr_left fun i _ => ?_
    show ((b.drop 64).drop (64 * i)).take 64 = (b.drop (64 * (i + 1))).take 64;rw [List.drop_drop]
    congr 2
    omega
def sts (p : List Nat) : Nat -> List Nat
  | 0 => begun
  | i + 1 => block (sts p i) (slice p (64 * i) 64)
theorem sts_is (p : List Nat) : ∀ n, ((List.range n).map fun i => slice p (64 * i) 64).foldl block begun = sts p n
  | 0 => rfl
  | n + 1 => by
    rw [List.range_succ, List.map_append, List.foldl_append, sts_is p n];rfl
theorem sha_is (b : List Nat) : sha b = (sts (pad b) ((pad b).length / 64)).flatMap (big 4) := by
  have h := pad_len b
  have e : (pieces (pad b).length 64 (pad b)).foldl block begun = sts (pad b) ((pad b).length / 64) := by
    rw [pieces_is ((pad b).length / 64) _ _ (by omega) (by omega), sts_is]
  show ((pieces (pad b).length 64 (pad b)).foldl block begun).flatMap (big 4) = _;rw [e]
theorem sha_lt (b : List Nat) : ∀ x ∈ sha b, x < 256 := by
  intro x hx;rw [sha_is] at hx;obtain ⟨w, _, hw⟩ := List.mem_flatMap.mp hx;exact big_lt hw
theorem step_len {s : List Nat} {k w : Nat} (h : s.length = 8) : (step s k w).length = 8 := by
  match s, h with
  | [a, b, c, d, e, f, g, i], _ => rfl
theorem runs_len {s ws : List Nat} (h : s.length = 8) : ∀ i, (runs s ws i).length = 8 := by
  intro i;unfold runs;generalize (rounds.zip ws).take i = l
  induction l generalizing s with
  | nil => exact h
  | cons x l ih => exact ih (step_len h)
theorem block_len {s b : List Nat} (h : s.length = 8) : (block s b).length = 8 := by
  rw [block_is, List.length_map, List.length_zip, runs_len h, h];rfl
theorem sts_len (p : List Nat) : ∀ i, (sts p i).length = 8
  | 0 => by show begun.length = 8; rw [begun_is]; rfl
  | i + 1 => block_len (sts_len p i)
theorem begun_lt : ∀ x ∈ begun, x < 4294967296 := by rw [begun_is]; decide
theorem sts_lt (p : List Nat) : ∀ i, ∀ x ∈ sts p i, x < 4294967296
  | 0 => begun_lt
  | i + 1 => block_lt
theorem sha_len (b : List Nat) : (sha b).length = 32 := by
  rw [sha_is, List.length_flatMap];have h := sts_len (pad b) ((pad b).length / 64);generalize sts (pad b) ((pad b).length / 64) = l at h
  match l, h with
  | [a, b, c, d, e, f, g, i], _ => simp [big_len]
end My
namespace G
open PySem PySem.Spec PyProof.Rows L2
def nv (l : List Nat) : List V := l.map fun (n : Nat) => V.int (n : Int)
theorem j5 (l : List Nat) : (nv l).length = l.length := List.length_map _
theorem nv_get {l : List Nat} {i n : Nat} (h : l[i]? = some n) : (nv l)[i]? = some (.int (n : Int)) := by
  unfold nv;rw [List.getElem?_map, h]; rfl
theorem Y3 (l k : List Nat) : nv (l ++ k) = nv l ++ nv k := List.map_append
theorem nv_ex {l : List Nat} {i : Nat} {v : V} (h : (nv l)[i]? = some v) : ∃ n, l[i]? = some n /\ v = .int (n : Int) := by
  unfold nv at h;rw [List.getElem?_map] at h;cases e : l[i]? with
  | none => rw [e] at h; cases h
  | some n => rw [e] at h; exact ⟨n, rfl, (Option.some.inj h).symm⟩
section
variable {X : Cx}
theorem op_imp {f : Value -> Value -> Sem Value} {r r' : R2} (h : OpR X f r) (i : ∀ x y H Q, r' x y H Q -> r x y H Q) : OpR X f r' :=
  fun pins s σ H x y v u Q I rx ry q => h pins s σ H x y v u Q I rx ry (i x y H Q q)
def rN (C : Nat -> Nat -> Prop) (g : Nat -> Nat -> Nat) : R2 := fun x y H Q => ∃ a b : Nat, x = .int (a : Int) /\ y = .int (b : Int) /\ C a b /\ Q (.int ((g a b : Nat) : Int)) H
def rN0 (g : Nat -> Nat -> Nat) : R2 := fun x y H Q => ∃ a b : Nat, x = .int (a : Int) /\ y = .int (b : Int) /\ Q (.int ((g a b : Nat) : Int)) H
theorem p2 (b : Nat) : (2 : Int) ^ ((b : Int)).toNat = ((2 ^ b : Nat) : Int) := by
  rw [Int.toNat_natCast, two_pow_cast]
theorem Q2 : OpR X (binaryOp .Add) (rN0 fun a b => a + b) := op_imp Z2 fun x y H Q ⟨a, b, e1, e2, q⟩ => ⟨a, b, e1, e2, by rw [Int.natCast_add] at q; exact q⟩
theorem n_shr : OpR X (binaryOp .RShift) (rN0 fun a b => a / 2 ^ b) := op_imp op_shr fun x y H Q ⟨a, b, e1, e2, q⟩ => ⟨a, b, e1, e2, Int.natCast_nonneg b, by show Q (V.int ((a : Int) / 2 ^ ((b : Int)).toNat)) H; rw [p2, <- Int.natCast_ediv]; exact q⟩
theorem n_shl : OpR X (binaryOp .LShift) (rN (fun a b => a < 2 ^ 64 /\ b <= 1000000) fun a b => a * 2 ^ b) := op_imp op_shl fun x y H Q ⟨a, b, e1, e2, c, q⟩ => ⟨a, b, e1, e2, ⟨by omega, by omega, by rw [Int.natAbs_natCast]; exact c.1⟩, by show Q (V.int ((a : Int) * 2 ^ ((b : Int)).toNat)) H; rw [p2, <- Int.natCast_mul]; exact q⟩
theorem n_and : OpR X (binaryOp .BitAnd) (rN0 Nat.land) := op_imp op_and fun x y H Q ⟨a, b, e1, e2, q⟩ => ⟨a, b, e1, e2, by show Q (V.int (Builtin.bitAnd (a : Int) (b : Int))) H; rw [bitAnd_pp (by omega) (by omega), Int.toNat_natCast, Int.toNat_natCast]; exact q⟩
theorem n_or : OpR X (binaryOp .BitOr) (rN0 Nat.lor) := op_imp op_or fun x y H Q ⟨a, b, e1, e2, q⟩ => ⟨a, b, e1, e2, by show Q (V.int (Builtin.bitOr (a : Int) (b : Int))) H; rw [Bits.bitOr_pp (by omega) (by omega), Int.toNat_natCast, Int.toNat_natCast]; exact q⟩
theorem n_xor : OpR X (binaryOp .BitXor) (rN0 Nat.xor) := op_imp op_xor fun x y H Q ⟨a, b, e1, e2, q⟩ => ⟨a, b, e1, e2, by show Q (V.int (Builtin.bitXor (a : Int) (b : Int))) H; rw [Bits.bitXor_pp (by omega) (by omega), Int.toNat_natCast, Int.toNat_natCast]; exact q⟩
end
theorem addMeets (l : Addr) (xs : Array Value) (n : Nat) (sl : Array (Option Value)) (b : Addr) (ys : Array Value) (m : Nat) (tl : Array (Option Value)) (hc : xs.size + ys.size <= sizeLine) :
    Meets (Builtin.«list.__add__» ⟨[.ref l, .ref b], []⟩) (fun _ R s => s.heap.get? l = some { cls := .type "list", dict := none, data := .seq xs n, slots := sl } /\ s.heap.get? b = some { cls := .type "list", dict := none, data := .seq ys m, slots := tl } /\
      R (.ok (.ret (Value.ref s.heap.objs.size))) { s with heap := s.heap.push { cls := Value.type "list", data := Data.seq (xs ++ ys) }, toks := s.toks }) :=
  .of_wp fun prog w A R s h => by
    obtain ⟨hp, g, d, tk, os⟩ := s;obtain ⟨hl, hb, h⟩ := h;have f1 := AutoSeq1.idx_int;have f2 := AutoSeq1.sub_tuple_tuple;have f3 := AutoSeq1.sub_list_list;have f4 := AutoSeq1.sub_tuple_list;have f5 := AutoSeq1.sub_list_tuple
    wp_walk using wpAny_loadPart' hl, wpAny_loadPart' hb
    exact ⟨_, rfl, h⟩
section
variable {X : Cx}
theorem sq_obj {pins : List (Addr × Obj)} {σ : L2.St} {H : Hp} {s : Shared} {a : Addr} {xs : List V} (I : Inv X pins σ H s) (h : SqL X.K H a xs) : ∃ (its : List Value) (n : Nat) (sl : Array (Option Value)), Vals xs its /\ xs.length <= sizeLine /\
    s.heap.get? a = some { cls := .type "list", dict := none, data := .seq its.toArray n, slots := sl } := by
  rcases h with h | ⟨o, its, n, hk, hc, hd, hs, hz, r⟩
  · obtain ⟨z, its, n, r, e⟩ := h.ok I.hok;exact ⟨its, n, _, r, z, e⟩
  · have e := I.kIn a o hk;obtain ⟨oc, od, oda, osl⟩ := o;have hc' : oc = .type "list" := hc;have hd' : od = none := hd;have hs' : oda = .seq its n := hs;subst hc' hd' hs';refine ⟨its.toList, n, osl, r, ?_, by rw [Array.toArray_toList]; exact e⟩;have el := r.length;simp only [Array.length_toList] at el;omega
def rCatQ (K : PySem.W.Frag) : R2 := fun x y H Q => ∃ l b xs zs, x = .ref l /\ y = .ref b /\ SqL K H l xs /\ SqL K H b zs /\ xs.length + zs.length <= sizeLine /\ ∀ p, H p = none -> Q (.ref p) (upd H p (.lst (xs ++ zs)))
theorem op_catQ : OpR X (binaryOp .Add) (rCatQ X.K) := by
  intro pins s σ H x y v u Q I rx ry h;obtain ⟨l, b, xs, zs, rfl, rfl, hH, hB, hz, q⟩ := h;cases rx;cases ry;obtain ⟨its, n, sl, r, z, e⟩ := sq_obj I hH;obtain ⟨its2, n2, sl2, r2, z2, e2⟩ := sq_obj I hB;have l1 := r.length;have l2 := r2.length;refine concat_meets ⟨_, e, rfl⟩ ⟨_, e2, rfl⟩ noFill_list_add seq_list_add F.slot_list_add F.entry_list_add (F.args_list_add_2 _ _) (addMeets l its.toArray n sl b its2.toArray n2 sl2 (by rw [List.size_toArray, List.size_toArray]; omega)) ⟨e, e2, ?_⟩;have ea : its.toArray ++ its2.toArray = (its ++ its2).toArray := by simp
  rw [ea];exact ⟨.ref _, _, I.lnew (t' := s.toks) (r.append r2) (by rw [List.length_append]; omega), rfl, q _ I.fresh⟩
def namesOk (N : List Str) (sc : Scope) : List Expr -> List Nat -> Bool
  | [], [] => true
  | .Name x _ :: es, i :: is => decide (N[i]? = some x) && decide (sc.names.lookup x = some .local \/ sc.names.lookup x = some .cell \/ sc.names.lookup x = some .free) && (!(x == ("__debug__" : Str)) && (!(x == ("__classdict__" : Str)) && namesOk N sc es is))
  | _, _ => false
def tNames (is : List Nat) : TA := fun σ H Q => ∃ vs : List V, is.map (fun i => σ[i]?) = vs.map (fun v => some (some v)) /\ Q vs H
theorem pa_names : ∀ {es : List Expr} {is : List Nat}, namesOk X.N X.env.scope es is = true -> PA X es (tNames is)
  | [], [], _ => by
    intro pos pins s σ H Q I h;obtain ⟨vs, e, q⟩ := h;cases vs with
    | nil => exact w9 pos pins s σ H Q I q
    | cons v vs => cases e
  | .Name x p :: es, i :: is, h => by
    have h' : (decide (X.N[i]? = some x) && decide (X.env.scope.names.lookup x = some .local \/ X.env.scope.names.lookup x = some .cell \/ X.env.scope.names.lookup x = some .free) && (!(x == ("__debug__" : Str)) && (!(x == ("__classdict__" : Str)) && namesOk X.N X.env.scope es is))) = true := h;simp only [Bool.and_eq_true, decide_eq_true_eq, Bool.not_eq_true'] at h';obtain ⟨⟨h1, h2⟩, h3, h4, h5⟩ := h';have ih := pa_names h5;have c := w6 (X := X) (pe_var (pos := p) h1 h2 h3 h4) ih rfl;intro pos pins s σ H Q I q;obtain ⟨vs, e, q⟩ := q;cases vs with
    | nil => cases e
    | cons v vs =>
      have e' : σ[i]? :: is.map (fun i => σ[i]?) = some (some v) :: vs.map (fun v => some (some v)) := e;exact c pos pins s σ H Q I ⟨v, (List.cons.inj e').1, vs, (List.cons.inj e').2, q⟩
  | [], _ :: _, h => by cases h
  | .Name _ _ :: _, [], h => by cases h
end
theorem for_zt {K : PySem.W.Frag} {a b : Addr} {xs ys : List V} {g : TG} {tb : TS} {D : Ends} {σ : L2.St} {H : Hp} (Pv : Nat -> L2.St -> Hp -> Prop) (hlen : xs.length <= ys.length) (h0 : Pv 0 σ H) (hl : ∀ i σ H, i <= xs.length -> Pv i σ H -> SqL K H a xs /\ SqT K H b ys)
    (hs : ∀ i x y T σ H, xs[i]? = some x -> ys[i]? = some y -> H T = none -> Pv i σ H -> g (.ref T) σ (upd H T (.tup [x, y])) fun σ2 H2 => tb { D with nx := Pv (i + 1), ct := Pv (i + 1), bk := D.nx } σ2 H2) (hd : ∀ σ H, Pv xs.length σ H -> D.nx σ H) :
    ∃ W : Nat -> Nat -> L2.St -> Hp -> Prop, (∃ m, W 0 m σ H) /\ ∀ i m σ H, W i m σ H ->
      ((Zt.Jzt K a b).stop i H /\ D.nx σ H) \/ ((Zt.Jzt K a b).go i H /\ ∃ N : L2.St -> Hp -> Prop, (∀ σ' H', N σ' H' -> ∃ m', m' < m /\ W (i + 1) m' σ' H') /\ ∀ x H', (Zt.Jzt K a b).yld i H x H' -> g x σ H' fun σ2 H2 => tb { D with nx := N, ct := N, bk := D.nx } σ2 H2) := by
  refine ⟨fun i m σ H => m = xs.length - i /\ i <= xs.length /\ Pv i σ H, ⟨xs.length, by simp, Nat.zero_le _, h0⟩, ?_⟩;rintro i m σ H ⟨rfl, hi, p⟩;obtain ⟨q, q2⟩ := hl i σ H hi p;by_cases hlt : i < xs.length
  · refine .inr ⟨⟨xs, ys, xs[i], ys[i], q, q2, by simp [hlt], by simp [Nat.lt_of_lt_of_le hlt hlen]⟩, Pv (i + 1), fun σ' H' p' => ⟨xs.length - (i + 1), by omega, rfl, hlt, p'⟩, fun x H' y => ?_⟩;obtain ⟨T, u, v, e, hT, e2, hu, hv⟩ := y;subst e e2;exact hs i u v T σ H (hu xs q) (hv ys q2) hT p
  · have e : i = xs.length := by omega
    subst e;exact .inl ⟨⟨xs, q, Nat.le_refl _⟩, hd σ H p⟩
theorem lc_zip {K : PySem.W.Frag} {a b : Addr} {xs ys : List V} {g : TG} {tt : TT} {te : TE} {vs : List Nat} {σ : L2.St} {H1 : Hp} {D : Addr} {Qd : Hp -> Prop} (Pv : Nat -> Hp -> Prop) (hlen : xs.length = ys.length) (h0 : Pv 0 (upd H1 D (.lst []))) (hl : ∀ i H, i <= xs.length -> Pv i H -> SqL K H a xs /\ SqL K H b ys)
    (hs : ∀ i x y T H, xs[i]? = some x -> ys[i]? = some y -> H T = none -> Pv i H -> g (.ref T) (wipe σ vs) (upd H T (.tup [x, y])) fun σ2 H2 => wipe σ2 vs = wipe σ vs /\ tt σ2 H2 fun b H3 =>
      if b = true then te σ2 H3 fun y H4 => ∃ acc, H4 D = some (.lst acc) /\ acc.length < sizeLine /\ Pv (i + 1) (upd H4 D (.lst (acc ++ [y]))) else Pv (i + 1) H3) (hd : ∀ H, Pv xs.length H -> Qd H) :
    ∃ W : Nat -> Nat -> Hp -> Prop, (∃ m, W 0 m (upd H1 D (.lst []))) /\ ∀ i m H, W i m H ->
      ((Itz K a b).stop i H /\ Qd H) \/ ((Itz K a b).go i H /\ ∃ Nx : Hp -> Prop, (∀ H', Nx H' -> ∃ m', m' < m /\ W (i + 1) m' H') /\ ∀ x H', (Itz K a b).yld i H x H' -> g x (wipe σ vs) H' fun σ2 H2 => wipe σ2 vs = wipe σ vs /\ tt σ2 H2 fun b H3 =>
        if b = true then te σ2 H3 fun y H4 => ∃ acc, H4 D = some (.lst acc) /\ acc.length < sizeLine /\ Nx (upd H4 D (.lst (acc ++ [y]))) else Nx H3) := by
  refine ⟨fun i m H => m = xs.length - i /\ i <= xs.length /\ Pv i H, ⟨xs.length, by simp, Nat.zero_le _, h0⟩, ?_⟩;rintro i m H ⟨rfl, hi, p⟩;obtain ⟨q, q2⟩ := hl i H hi p;by_cases hlt : i < xs.length
  · refine .inr ⟨⟨xs, ys, xs[i], ys[i], q, q2, by simp [hlt], by simp [hlen ▸ hlt]⟩, Pv (i + 1), fun H' p' => ⟨xs.length - (i + 1), by omega, rfl, hlt, p'⟩, fun x H' y => ?_⟩;obtain ⟨T, u, v, e, hT, e2, hu, hv⟩ := y;subst e e2;exact hs i u v T H (hu xs q) (hv ys q2) hT p
  · have e : i = xs.length := by omega
    subst e;exact .inl ⟨⟨xs, ys, q, q2, .inl (Nat.le_refl _)⟩, hd H p⟩
theorem lc_rangeC {lo c : Int} {n : Nat} {g : TG} {tt : TT} {te : TE} {vs : List Nat} {σ : L2.St} {H1 : Hp} {D : Addr} {Qd : Hp -> Prop} (Pv : Nat -> Hp -> Prop) (h0 : Pv 0 (upd H1 D (.lst [])))
    (hs : ∀ i H, i < n -> Pv i H -> g (.int (lo + (i : Nat) * c)) (wipe σ vs) H fun σ2 H2 => wipe σ2 vs = wipe σ vs /\ tt σ2 H2 fun b H3 =>
      if b = true then te σ2 H3 fun y H4 => ∃ acc, H4 D = some (.lst acc) /\ acc.length < sizeLine /\ Pv (i + 1) (upd H4 D (.lst (acc ++ [y]))) else Pv (i + 1) H3) (hd : ∀ H, Pv n H -> Qd H) :
    ∃ W : Nat -> Nat -> Hp -> Prop, (∃ m, W 0 m (upd H1 D (.lst []))) /\ ∀ i m H, W i m H ->
      ((Itc lo c n).stop i H /\ Qd H) \/ ((Itc lo c n).go i H /\ ∃ Nx : Hp -> Prop, (∀ H', Nx H' -> ∃ m', m' < m /\ W (i + 1) m' H') /\ ∀ x H', (Itc lo c n).yld i H x H' -> g x (wipe σ vs) H' fun σ2 H2 => wipe σ2 vs = wipe σ vs /\ tt σ2 H2 fun b H3 =>
        if b = true then te σ2 H3 fun y H4 => ∃ acc, H4 D = some (.lst acc) /\ acc.length < sizeLine /\ Nx (upd H4 D (.lst (acc ++ [y]))) else Nx H3) := by
  refine ⟨fun i m H => m = n - i /\ i <= n /\ Pv i H, ⟨n, by simp, Nat.zero_le _, h0⟩, ?_⟩;rintro i m H ⟨rfl, hi, p⟩;by_cases hlt : i < n
  · refine .inr ⟨hlt, Pv (i + 1), fun H' p' => ⟨n - (i + 1), by omega, rfl, hlt, p'⟩, fun x H' y => ?_⟩;obtain ⟨e, y⟩ := y;subst e y;exact hs i _ hlt p
  · have e : i = n := by omega
    subst e;exact .inl ⟨Nat.le_refl _, hd H p⟩
theorem z8 {H : Hp} {p : Addr} (h : H p = none) (o : HO) : Same H (upd H p o) := fun b u e => by rw [y9 (y4 e h)]; exact e
theorem Q3 {H H1 : Hp} {p : Addr} (s : Same H H1) (h : H p = none) (o : HO) : Same H (upd H1 p o) := fun b u e => by rw [y9 (y4 e h)]; exact s b u e
def Z3 : List Nat -> List Value -> Bool
  | [], [] => true
  | n :: ns, .int i _ :: vs => decide (i = (n : Int)) && Z3 ns vs
  | _, _ => false
theorem nats_vals : ∀ {ns : List Nat} {vs : List Value}, Z3 ns vs = true -> Vals (nv ns) vs
  | [], [], _ => .nil
  | n :: ns, .int i t :: vs, h => by
    have h' : (decide (i = (n : Int)) && Z3 ns vs) = true := h;rw [Bool.and_eq_true, decide_eq_true_eq] at h';obtain ⟨e, h2⟩ := h';subst e;exact .cons ⟨t, rfl⟩ (nats_vals h2)
end G
namespace Ex
open PySem PySem.Spec PyProof.Rows L2
def TrT (h : Heap) (e T : Addr) (cls : Value) : Prop :=
  ∃ oe vs oT ts, h.get? e = some oe /\ oe.cls = cls /\ oe.data = .fields vs /\ vs[1]? = some (.ref T) /\ T ≠ e /\ h.get? T = some oT /\ oT.data = .fields ts /\ ts[3]? = some .none
def NewE (h : Heap) (e : Addr) (cls : Value) : Prop := ∃ oe vs, h.get? e = some oe /\ oe.cls = cls /\ oe.data = .fields vs /\ vs[1]? = some .none
section
variable {M : Model} {A : Around} {E : Value -> Shared -> Prop} {s : Shared}
theorem entryX {base : Heap} {env : Env} {outer : List Env} {L e : Addr} {oe : Obj} {vs : Array Value} {head : Value} {had : Bool} {Q : Unit -> Shared -> Prop}
    (gfr : A.frames = some (env :: outer)) (gl : s.heap.FunFrames base (env :: outer)) (gf : env.frame = some L) (ge : s.heap.get? e = some oe) (gd : oe.data = .fields vs) (gz : 1 < vs.size)
    (k : ∀ h' T, s.heap.objs.size <= T -> TrT h' e T oe.cls -> (∀ b o, s.heap.get? b = some o -> b ≠ e -> b ∉ frs (env :: outer) -> h'.get? b = some o) -> (∀ b o, s.heap.get? b = some o -> b ≠ e -> ∃ sl, h'.get? b = some { o with slots := sl }) -> Q () { s with heap := h' }) :
    wpAny M A (do let a <- frameOf env; let pl <- entryPlaceOf L had; let b <- EntryCells.newEntry head a .none (rawInt L) .none pl; setField (.ref e) 1 b) (fun _ s' => wpAny M A (setFlight (.ref e) none) Q E s') E s := by
  have gene : e ∉ frs (env :: outer) := fun hm => by
    obtain ⟨_, o, ho, hnf⟩ := gl.mem hm;rw [ge] at ho; injection ho with ho; subst ho; exact hnf vs gd
  refine wpAny_bind (wpAny_frameOf_fun gfr gl gf fun g₁ gs₁ => ?_);refine wpAny_bind (wpAny_entryPlaceOf fun pl gpl => ?_);unfold EntryCells.newEntry newFields;refine wpAny_bind (wpAny_newObj_type ?_ (gpl.sizeOk5 _ _ _ _ _));have ge₁ : g₁.get? e = some oe := (gs₁.2.1 e gene).trans ge;have ge₂ := Heap.get?_push_of_some (h := g₁) { cls := .type "traceback", dict := none, data := .fields ([head, .ref L, .none, rawInt L, .none] ++ (if pl.isEmpty then List.replicate 6 Value.none else pl)).toArray } ge₁;refine wpAny_setField ge₂ gd gz ?_;have gTe : g₁.objs.size ≠ e := Nat.ne_of_gt (Heap.lt_size ge₁);have gd₃ := Obj.data_mapFields gd (·.setIfInBounds 1 (Value.ref g₁.objs.size));have ge₃ := Heap.get?_update_self (Obj.mapFields (·.setIfInBounds 1 (Value.ref g₁.objs.size))) ge₂ (Obj.isFreed_of_fields gd₃)
  have gT₃ := (Heap.get?_update_other (g₁.push { cls := .type "traceback", dict := none, data := .fields ([head, .ref L, .none, rawInt L, .none] ++ (if pl.isEmpty then List.replicate 6 Value.none else pl)).toArray })
    (Obj.mapFields (·.setIfInBounds 1 (Value.ref g₁.objs.size))) (Ne.symm gTe)).trans (Heap.get?_push_size g₁ rfl)
  unfold setFlight;refine wpAny_bind (wpAny_field ge₃ gd₃ (x := .ref g₁.objs.size) (by simp [gz]) ?_);rw [if_pos (show (Value.ref g₁.objs.size != Value.none) = true from by simp)];refine wpAny_setField gT₃ rfl (by simp only [List.size_toArray, List.length_append, List.length_cons, List.length_nil] <;> omega) ?_
  have keep : ∀ b o, b ≠ e -> g₁.get? b = some o ->
      (((g₁.push { cls := .type "traceback", dict := none, data := .fields ([head, .ref L, .none, rawInt L, .none] ++ (if pl.isEmpty then List.replicate 6 Value.none else pl)).toArray }).update e (Obj.mapFields (·.setIfInBounds 1 (Value.ref g₁.objs.size)))).update g₁.objs.size
        (Obj.mapFields (·.setIfInBounds 3 ((none : Option Addr).elim Value.none fun f => rawInt f)))).get? b = some o := fun b o hbe hb => by
    have hbT : g₁.objs.size ≠ b := Nat.ne_of_gt (Heap.lt_size hb);rw [Heap.get?_update_other _ _ hbT, Heap.get?_update_other _ _ (Ne.symm hbe)];exact Heap.get?_push_of_some _ hb
  refine k _ g₁.objs.size (by rw [gs₁.1]; exact Nat.le_refl _) ?_ (fun b o hb hbe hbf => keep b o hbe ((gs₁.2.1 b hbf).trans hb)) fun b o hb hbe => ?_
  · refine ⟨_, _, _, _, ?_, Obj.cls_mapFields _ _, gd₃, by simp [gz], gTe, Heap.get?_update_self _ gT₃ (Obj.isFreed_of_fields (Obj.data_mapFields rfl _)), Obj.data_mapFields rfl _, by first | (simp; done) | (rcases gpl with rfl | ⟨_, _, _, _, _, _, _, rfl⟩ <;> simp)⟩;rw [Heap.get?_update_other _ _ gTe]; exact ge₃
  · obtain ⟨sl, hs⟩ := gs₁.2.2 b o hb;exact ⟨sl, keep b _ hbe hs⟩
structure Chg (D fr : List Addr) (h h' : Heap) : Prop where
  keep : ∀ b o, h.get? b = some o -> b ∉ D -> b ∉ fr -> h'.get? b = some o
  slot : ∀ b o, h.get? b = some o -> b ∉ D -> ∃ sl, h'.get? b = some { o with slots := sl }
theorem noteNew {base : Heap} {env : Env} {outer : List Env} {L e : Addr} {cls : Value} {Q : Unit -> Shared -> Prop}
    (gfr : A.frames = some (env :: outer)) (gl : s.heap.FunFrames base (env :: outer)) (gf : env.frame = some L) (g : NewE s.heap e cls)
    (k : ∀ h' T, s.heap.objs.size <= T -> TrT h' e T cls -> Chg [e] (frs (env :: outer)) s.heap h' -> Q () { s with heap := h' }) :
    wpAny M A (noteFrame (.ref e) env) (fun _ s' => wpAny M A (setFlight (.ref e) none) Q E s') E s := by
  obtain ⟨oe, vs, ge, gc, gd, g1⟩ := g;subst gc;unfold noteFrame;simp only [gf];refine wpAny_bind (wpAny_field ge gd g1 ?_);rw [if_neg (by decide)];exact entryX gfr gl gf ge gd (Array.getElem?_eq_some_iff.mp g1).1 fun h' T a b c d => k h' T a b ⟨fun x o hx hD hf => c x o hx (fun z => hD (by simp [z])) hf, fun x o hx hD => d x o hx (fun z => hD (by simp [z]))⟩
theorem noteOld {base : Heap} {env : Env} {outer : List Env} {L e T : Addr} {cls : Value} {Q : Unit -> Shared -> Prop}
    (gfr : A.frames = some (env :: outer)) (gl : s.heap.FunFrames base (env :: outer)) (gf : env.frame = some L) (g : TrT s.heap e T cls)
    (k : ∀ h' T', s.heap.objs.size <= T' -> TrT h' e T' cls -> Chg [e, T] (frs (env :: outer)) s.heap h' -> Q () { s with heap := h' }) :
    wpAny M A (noteFrame (.ref e) env) (fun _ s' => wpAny M A (setFlight (.ref e) none) Q E s') E s := by
  obtain ⟨oe, vs, oT, ts, ge, gc, gd, g1, gTe, gT, gdT, g3⟩ := g;subst gc;unfold noteFrame;simp only [gf];refine wpAny_bind (wpAny_field ge gd g1 ?_);rw [if_pos (show (Value.ref T != Value.none) = true from by simp)];refine wpAny_bind (wpAny_field gT gdT g3 ?_);rw [if_neg (show ¬ ((Value.none == rawInt L) = true) from by simp [rawInt])];refine wpAny_bind (wpAny_setField gT gdT (Array.getElem?_eq_some_iff.mp g3).1 ?_);have other : ∀ b, b ≠ T -> (s.heap.update T (Obj.mapFields (·.setIfInBounds 3 Value.none))).get? b = s.heap.get? b := fun b hb => Heap.get?_update_other _ _ (Ne.symm hb)
  have noRec : ∀ b o, s.heap.get? b = some o -> (∀ vs, o.data ≠ .fields vs) -> b ≠ T := fun b o hb hnf q => by
    rw [q, gT] at hb; injection hb with hb; subst hb; exact hnf ts gdT
  refine entryX (s := { s with heap := s.heap.update T (Obj.mapFields (·.setIfInBounds 3 Value.none)) }) gfr (gl.of_keeps fun b o hb hnf => ⟨o, (other b (noRec b o hb hnf)).trans hb, rfl⟩) gf ((other e (Ne.symm gTe)).trans ge) gd (Array.getElem?_eq_some_iff.mp g1).1
    fun h' T' a b c d => k h' T' (by rw [Heap.size_after_update] at a; exact a) b ⟨fun x o hx hD hf => c x o ((other x fun z => hD (by simp [z])).trans hx) (fun z => hD (by simp [z])) hf, fun x o hx hD => d x o ((other x fun z => hD (by simp [z])).trans hx) (fun z => hD (by simp [z]))⟩
end
def NewA (X : Cx) (pins : List (Addr × Obj)) (b : Addr) : Prop := (b ∈ X.ex \/ X.s_0.heap.get? b = none) /\ b ≠ X.env.locals /\ (∀ x c, X.env.cells.lookup x = some c -> c ≠ b) /\ ∀ p ∈ X.pn ++ pins, p.1 ≠ b
theorem ok_there {P : Program} {w : World} {H : Hp} {h : Heap} {a : Addr} {o : HO} (x : Q7 P w H h a o) : ∃ ob, h.get? a = some ob := by
  cases o with
  | lst xs => obtain ⟨_, _, _, _, e⟩ := x; exact ⟨_, e⟩
  | tup xs => obtain ⟨_, _, _, _, e, _⟩ := x; exact ⟨_, e⟩
  | dK kvs => obtain ⟨_, _, _, _, o, _, _, e, _⟩ := x; exact ⟨_, e⟩
  | dT kvs => obtain ⟨_, _, _, _, o, _, _, e, _⟩ := x; exact ⟨_, e⟩
  | set S n => obtain ⟨o, _, _, _, e, _⟩ := x; exact ⟨_, e⟩
  | ins C dx fs => obtain ⟨_, _, _, e, _⟩ := x; exact ⟨_, e⟩
  | own y => obtain ⟨_, e⟩ := x; exact ⟨_, e⟩
  | xd fs => obtain ⟨_, ⟨_, _, _, e, _⟩, _⟩ := x; exact ⟨_, e⟩
  | rng lo hi => obtain ⟨_, _, _, e⟩ := x; exact ⟨_, e⟩
  | frz ob u => obtain ⟨e, _⟩ := x; exact ⟨_, e⟩
  | tbl ps => exact ⟨_, (show h.get? a = some _ from x)⟩
  | met f y => exact ⟨_, (show h.get? a = some _ from x)⟩
  | ext φ => obtain ⟨_, ⟨_, e⟩, _⟩ := x; exact ⟨_, e⟩
theorem ok_none {P : Program} {w : World} {H : Hp} {h : Heap} {a : Addr} (ok : HOk P w H h) (e : h.get? a = none) : H a = none := by
  cases q : H a with
  | none => rfl
  | some o =>
    obtain ⟨ob, z⟩ := ok_there (ok a o q);rw [e] at z; cases z
section
variable {X : Cx} {pins : List (Addr × Obj)} {σ : L2.St} {H H' : Hp} {s s' : Shared}
theorem newA (I : Inv X pins σ H s) {b : Addr} (hb : s.heap.get? b = none) : NewA X pins b := by
  refine ⟨?_, fun z => ?_, fun x c e z => ?_, fun p hp z => ?_⟩
  · by_cases hx : b ∈ X.ex
    · exact .inl hx
    · cases q : X.s_0.heap.get? b with
      | none => exact .inr rfl
      | some o =>
        obtain ⟨o', e⟩ := I.base.there b o q hx;rw [hb] at e; cases e
  · obtain ⟨m, ⟨o, _, _, ho, _⟩, _⟩ := I.loc;rw [<- z, hb] at ho; cases ho
  · obtain ⟨v, o, ho, _⟩ := I.cell x c e;rw [z, hb] at ho; cases ho
  · have q := (I.pin p hp).1;rw [z, hb] at q; cases q
theorem chg_inv {D : List Addr} {h' : Heap} (I : Inv X pins σ H s) (c : Chg D (frs X.stack) s.heap h') (hD : ∀ b ∈ D, NewA X pins b /\ H b = none) : Inv X pins σ H { s with heap := h' } := by
  have neL : ∀ b o, X.s_0.heap.get? b = some o -> b ≠ X.env.locals := fun b o e => Nat.ne_of_lt (Nat.lt_of_lt_of_le (Heap.lt_size e) I.ok.above)
  have neC : ∀ b o, X.s_0.heap.get? b = some o -> b ∉ X.ex -> b ∉ D := fun b o e hx hb => by
    rcases (hD b hb).1.1 with z | z
    · exact hx z
    · rw [z] at e; cases e
  have nst : ∀ b, b ≠ X.env.locals -> b ∉ X.fs -> b ∉ frs X.stack := fun b hL hf hb => (List.mem_cons.mp (I.stkSub b hb)).elim hL hf
  have nLD : X.env.locals ∉ D := fun z => (hD _ z).1.2.1 rfl
  have cellK : ∀ x cc, X.env.cells.lookup x = some cc -> ∀ v, s.heap.IsCell cc v -> h'.IsCell cc v := fun x cc e v ⟨o, ho, hd⟩ => by
    obtain ⟨sl, q⟩ := c.slot cc o ho fun z => (hD _ z).1.2.2.1 x cc e rfl
    exact ⟨_, q, hd⟩
  refine ⟨I.ok, I.os, I.bare, ⟨fun b o e n hb hx => ?_, fun b o e n hb hx => ?_, fun b o e n hx => I.base.free b o e n hx, fun b o e hx => ?_, I.base.tups, I.base.frzs, I.base.tbls⟩, ?_, fun x cc e => ?_, I.free, I.freeC, fun p hp => ?_, ?_, I.len⟩
  · exact c.keep b o (I.base.keep b o e n hb hx) (neC b o e hx) (nst b (neL b o e) hb)
  · obtain ⟨sl, e1⟩ := I.base.slot b o e n hb hx;obtain ⟨sl', e2⟩ := c.slot b _ e1 (neC b o e hx);exact ⟨sl', e2⟩
  · obtain ⟨o', e1⟩ := I.base.there b o e hx;obtain ⟨sl', e2⟩ := c.slot b _ e1 (neC b o e hx);exact ⟨_, e2⟩
  · obtain ⟨m, ⟨o, es, ep, ho, r⟩, hl⟩ := I.loc;obtain ⟨sl, q⟩ := c.slot _ o ho nLD;refine ⟨m, ⟨_, es, ep, q, r⟩, fun i x v e1 e2 e3 => ?_⟩;obtain ⟨u, ru, l⟩ := hl i x v e1 e2 e3;refine ⟨u, ru, ?_⟩;rcases l with l | ⟨k, cc, e, z⟩
    · exact .inl l
    · exact .inr ⟨k, cc, e, cellK x cc e _ z⟩
  · obtain ⟨v, z⟩ := I.cell x cc e;exact ⟨v, cellK x cc e v z⟩
  · obtain ⟨e, n, ne, nf, d⟩ := I.pin p hp;exact ⟨c.keep p.1 p.2 e (fun z => (hD _ z).1.2.2.2 p hp rfl) (nst _ ne nf), n, ne, nf, d⟩
  · intro a o e;refine (I.hok a o e).stay (fun b u hb q => c.keep b u q (fun z => ?_) fun z => ?_) (fun b q => q) fun b xs q => q
    · have n := (hD b z).2;rcases hb with hb | hb
      · rw [hb, e] at n; cases n
      · rw [hb] at n; cases n
    · have n := I.stkFree b z;rcases hb with hb | hb
      · rw [hb, e] at n; cases n
      · rw [hb] at n; cases n
end
def CXn (P : Program) (w : World) (C : Addr) : CXT := fun outer H s E e s' => ∃ (x T : Addr) (H' : Hp), e = .ref x /\ s.heap.get? x = none /\ s.heap.get? T = none /\ TrT s'.heap x T (.ref C) /\ H' x = none /\ H' T = none /\
  s'.os = s.os /\ AllBare s'.gens /\ Un (frs outer) [] H H' s.heap s'.heap /\ HOk P w H' s'.heap /\ E (.ref C) none H'
section
variable {P : Program} {w : World} {K : PySem.W.Frag} {mg : Str -> Option Value} {base : Heap} {N : List Str} {qual : Str} {scope : Scope} {f : Addr} {cd : Value} {A : Around} {outer : List Env} {s_0 : Shared} {H_0 : Hp} {E : XK} {C : Addr}
theorem leaves {X : Cx} {pins : List (Addr × Obj)} {σ : L2.St} {H : Hp} {s : Shared} {x : Addr} {E' : Value -> Shared -> Prop} (hX : X = cxOf (CXn P w C) P w K mg base N qual scope f cd A outer s_0 H_0 E) (I : Inv X pins σ H s) (nx : NewA X pins x) (hx : H x = none)
    (g : NewE s.heap x (.ref C) \/ ∃ T, TrT s.heap x T (.ref C) /\ NewA X pins T /\ H T = none) (hE : E (.ref C) none H) :
    wpAny (model P w) X.A (leaving X.env (.ref x)) (fun _ s'' => CXn P w C outer H_0 s_0 E (.ref x) s'') E' s := by
  subst hX;have st := I.stack
  have fin : ∀ (D : List Addr), (∀ b ∈ D, NewA (cxOf (CXn P w C) P w K mg base N qual scope f cd A outer s_0 H_0 E) pins b /\ H b = none) -> ∀ h' T', s.heap.objs.size <= T' -> TrT h' x T' (.ref C) -> Chg D (frs (cxOf (CXn P w C) P w K mg base N qual scope f cd A outer s_0 H_0 E).stack) s.heap h' -> CXn P w C outer H_0 s_0 E (.ref x) { s with heap := h' } := by
    intro D hD h' T' hT tr c;have I' := chg_inv I c hD;have hn : ∀ {b : Addr}, NewA (cxOf (CXn P w C) P w K mg base N qual scope f cd A outer s_0 H_0 E) pins b -> s_0.heap.get? b = none := fun {b} z => z.1.elim (fun y => absurd (show b ∈ ([] : List Addr) from y) (by simp)) id
    have hTn : s.heap.get? T' = none := Heap.get?_none_of_le hT;exact ⟨x, T', H, rfl, hn nx, hn (newA I hTn), tr, hx, ok_none I.hok hTn, I'.os, I'.bare, I'.base, I'.hok, hE⟩
  unfold leaving;rcases g with g | ⟨T, g, nT, hT⟩
  · exact wpAny_bind (noteNew I.ok.frames st rfl g fun h' T' a b c => fin [x] (fun b hb => by rw [List.mem_singleton.mp hb]; exact ⟨nx, hx⟩) h' T' a b c)
  · refine wpAny_bind (noteOld I.ok.frames st rfl g fun h' T' a b c => fin [x, T] (fun b hb => ?_) h' T' a b c);rcases List.mem_cons.mp hb with z | z
    · rw [z]; exact ⟨nx, hx⟩
    · rw [List.mem_singleton.mp z]; exact ⟨nT, hT⟩
theorem CXn.inv {X : Cx} {pins : List (Addr × Obj)} {σ : L2.St} {H : Hp} {s s' : Shared} {e : Value} {E : XK} (I : Inv X pins σ H s) (c : CXn X.prog X.w C X.stack H s E e s') :
    ∃ (x T : Addr) (H' : Hp), e = .ref x /\ Inv X pins σ H' s' /\ NewA X pins x /\ NewA X pins T /\ TrT s'.heap x T (.ref C) /\ H' x = none /\ H' T = none /\ E (.ref C) none H' := by
  obtain ⟨x, T, H', e1, hx, hT, tr, nx, nT, os, bare, un, hok, q⟩ := c;exact ⟨x, T, H', e1, I.call' (ch := []) os un hok bare (fun b z => absurd z (by simp)), newA I hx, newA I hT, tr, nx, nT, q⟩
theorem Q1 : Passes (CXn P w C) (cxOf (CXn P w C) P w K mg base N qual scope f cd A outer s_0 H_0 E) E := by
  intro pins σ H s e s' I c;obtain ⟨x, T, H', rfl, I', nx, nT, tr, hx, hT, q⟩ := CXn.inv I c;exact leaves rfl I' nx hx (.inr ⟨T, tr, nT, hT⟩) q
end
end Ex
namespace Ex
open PySem PySem.Spec PyProof.Rows L2
theorem ownC {K : PySem.W.Frag} {h : Heap} {mg : Str -> Option Value} {x : Str} {C : Addr} {bmB : List Value} {newId : String} (Y : K.In h) (m : mg x = some (.ref C)) (q : PySem.W.excIn K C bmB newId = true) : OwnCls x C bmB newId mg h := by
  refine ⟨m, ?_⟩;unfold PySem.W.excIn at q
  split at q
  · rename_i dd cd sl ho
    split at q
    · rename_i C' bm k0 k1 k2 k3 n k5 hm hs
      simp only [Bool.and_eq_true, beq_iff_eq, Bool.not_eq_true'] at q;obtain ⟨⟨⟨⟨⟨rfl, rfl⟩, hdel⟩, ht⟩, hok⟩, hni⟩ := q;obtain ⟨nm, bs, mro, ns, qn, hd, sn, sub, ab, col, del⟩ := cd;dsimp only at hm hdel hok hni;subst hm hdel
      have gsl : sl = #[k0, k1, k2, k3, some (.builtin n), k5] := by
        obtain ⟨l⟩ := sl;simp only at hs;rw [hs]
      subst gsl;exact ⟨bm, ns, nm, qn, bs, hd, sn, sub, ab, col, dd, k0, k1, k2, k3, k5, _, Y _ _ ho, .of_isNs (PySem.W.isNs_of_in Y hok), PySem.W.nsMap_none_of_in Y hok hni, PySem.W.tail_of_in Y ht⟩
    · cases q
  · cases q
def tRaise (E : XK) (C : Addr) : TS := fun _ _ H => E (.ref C) none H
def Throws (X : Cx) (E : XK) (C : Addr) : Prop := ∀ (pins : List (Addr × Obj)) (σ : L2.St) (H : Hp) (s : Shared) (e : Addr), Inv X pins σ H s -> NewA X pins e -> H e = none -> NewE s.heap e (.ref C) -> E (.ref C) none H -> X.xe (.ref e) s
section
variable {X : Cx}
theorem Y6 {x : Str} {C : Addr} {bm : List Value} {B newId initId : String} {E : XK} {np cpos pos : Pos} (hc : X.calm = true) (hg : Gl X x) (hm : X.mg x = some (.ref C)) (q : PySem.W.excIn X.K C bm newId = true) (FB : ExcBaseFacts B newId initId bm) (hX : Throws X E C)
    (hd : (x == ("__debug__" : Str)) = false := by decide) : PS X (.Raise (some (.Call (.Name x np) [] [] cpos)) none pos) (tRaise E C) := by
  intro pins s σ H D I h;obtain ⟨tl, N, nm, qq, bs, hdct, sn, sub, ab, col, dd, k0, k1, k2, k3, k5, mN, hC, hN, hni, T⟩ := (ownC I.kIn hm q).obj
  refine wpAny_Raise_call_subT (C := C) (nm := nm) (q := qq) (N := N) (bs := bs) (bm := tl) (hdct := hdct) (sn := sn) (sub := sub) (ab := ab) (col := col) (dd := dd) (k0 := k0) (k1 := k1) (k2 := k2) (k3 := k3) (k5 := k5)
    FB (mN := mN) (T.hasType FB.hasBase) (I.ok.hd hc) rfl hni (ld_glob I hg hm ⟨rfl, ?_⟩ hd)
  refine PyProof.Rows.evalArgs_empty ⟨rfl, Nat.zero_le _, hC, hN, T, fun h' e me => ?_⟩;have n : H e = none := ok_none I.hok me.new;have I' : Inv X pins σ H { s with heap := h' } := I.kept (t' := s.toks) me.keeps;obtain ⟨t, he, _, _⟩ := me.there;exact hX pins σ H _ e I' (newA I me.new) n ⟨_, _, he, rfl, rfl, rfl⟩ h
end
section
variable {P : Program} {w : World} {K : PySem.W.Frag} {mg : Str -> Option Value} {base : Heap} {N : List Str} {qual : Str} {scope : Scope} {f : Addr} {cd : Value} {A : Around} {outer : List Env} {s_0 : Shared} {H_0 : Hp} {E : XK} {C : Addr}
theorem throws : Throws (cxOf (CXn P w C) P w K mg base N qual scope f cd A outer s_0 H_0 E) E C := fun pins σ H s e I nx hx g q => leaves rfl I nx hx (.inl g) q
theorem ownp : PassesOwn (model P w) (cxOf (CXn P w C) P w K mg base N qual scope f cd A outer s_0 H_0 E).A (cxOf (CXn P w C) P w K mg base N qual scope f cd A outer s_0 H_0 E).env (cxOf (CXn P w C) P w K mg base N qual scope f cd A outer s_0 H_0 E).xe :=
  PassesOwn.leaving (Q₁ := fun e s'' => CXn P w C outer H_0 s_0 E e s'')
theorem okx {x : Str} {st : Stmt} {fd : FuncData} {ps : List Str} {k : Nat} {sp : Sp} (F : Fun K x qual st f fd) (S : z7 N ps (y3 st)) (len : ∀ vs H Q E, sp vs H Q E -> vs.length = ps.length)
    (hbody : ∀ (cdv : Value) (A : Around) (outer : List Env) (s : Shared) (H : Hp) (vs : List V) (Q : VK) (E : XK), Room k (A.deeper (envOfC qual (y3 st) s.heap.objs.size f cdv)) -> sp vs H Q E ->
      ∃ t, PSs (cxOf (CXn P w C) P w K mg base N qual (y3 st) f cdv A outer s H E) (defBody st) t /\ t { nx := fun _ H' => Q .non H', rt := Q } (start N vs) H) : FnOk P w K mg base (CXn P w C) (k + 1) f fd ps sp := by
  obtain ⟨oc, od, kV, doc, pm, an, cdv, ct, osl, rfl, lk, hcd⟩ := F.ex;exact fn_of lk hcd S len fun A outer s H vs Q E hr hsp => hbody cdv A outer s H vs Q E hr hsp
end
def marked (X : Cx) (e : Value) (E : Value -> Shared -> Prop) : Cx := { X with A := X.A.mark (some e), calm := false, xe := E }
section
variable {X : Cx} {pins : List (Addr × Obj)} {σ : L2.St} {H : Hp} {s : Shared}
theorem Inv.mark {e : Value} {E : Value -> Shared -> Prop} (I : Inv X pins σ H s) : Inv (marked X e E) pins σ H s :=
  ⟨⟨I.ok.mod, I.ok.kind, I.ok.glob, I.ok.blt, I.ok.above, I.ok.inj, I.ok.has, I.ok.cab, fun z => Bool.noConfusion (show false = true from z), I.ok.frames, I.ok.stk, I.ok.exf, I.ok.bs, I.ok.bsz, I.ok.noex, I.ok.exfs, I.ok.funs, I.ok.frf⟩,
    I.os, I.bare, I.base, I.loc, I.cell, I.free, I.freeC, I.pin, I.hok, I.len⟩
theorem Inv.unmark {e : Value} {E : Value -> Shared -> Prop} (hc : X.calm = true -> X.A.handled = none) (hf : X.A.frames = some X.stack) (I : Inv (marked X e E) pins σ H s) : Inv X pins σ H s :=
  ⟨⟨I.ok.mod, I.ok.kind, I.ok.glob, I.ok.blt, I.ok.above, I.ok.inj, I.ok.has, I.ok.cab, hc, hf, I.ok.stk, I.ok.exf, I.ok.bs, I.ok.bsz, I.ok.noex, I.ok.exfs, I.ok.funs, I.ok.frf⟩,
    I.os, I.bare, I.base, I.loc, I.cell, I.free, I.freeC, I.pin, I.hok, I.len⟩
end
end Ex
namespace Ex
open PySem PySem.Spec PyProof.Rows L2
section
variable {prog : Program} {w : World} {A : Around} {E : Value -> Shared -> Prop} {s : Shared} {env : Env}
theorem handle_own {e C : Addr} {x : Str} {bmB : List Value} {newId : String} {mg : Str -> Option Value} {t : Expr} {b₀ : Stmt} {suite : List Stmt} {pos : Pos} {rest : List ExceptHandler} {Q : Flow -> Shared -> Prop} (gb : bmB.contains (.type "BaseException") = true)
    (k : wpAny (model prog w) (A.mark (some (.ref e))) (eval t env) (fun c s₁ => c = .ref C /\ OwnCls x C bmB newId mg s₁.heap /\ (∃ oe, s₁.heap.get? e = some oe /\ oe.cls = .ref C) /\
      wpAny (model prog w) (A.mark (some (.ref e))) (setFlight (.ref e) none) (fun _ s₂ => wpAny (model prog w) (A.mark (some (.ref e))) (execs (b₀ :: suite) env) Q (notedBy (model prog w) (A.mark (some (.ref e))) env (cameBackBy (model prog w) A env E)) s₂) (notedBy (model prog w) (A.mark (some (.ref e))) env (cameBackBy (model prog w) A env E)) s₁) (notedBy (model prog w) (A.mark (some (.ref e))) env (cameBackBy (model prog w) A env E)) s) :
    wpAny (model prog w) A (handleBy (.ref e) env (.ExceptHandler (some t) none (b₀ :: suite) pos :: rest)) Q E s := by
  refine wpAny_handleBy_cons (codeAny_handlers_test (wpAny_mono k (fun c s₁ k₁ => ?_) fun _ _ y => y)) (by intro q; cases q);obtain ⟨rfl, O, ⟨oe, he, hcls⟩, hk⟩ := k₁;obtain ⟨bm, N, nm, q, bs, hdct, sn, sub, ab, col, dd, k0, k1, k2, k3, k5, mN, hC, hN, hq, T⟩ := O.obj;obtain ⟨hh, g, d, tk, os⟩ := s₁;exact wpAny_excMatches_sub_self hC he hcls (T.hasType gb) (codeAny_handlers_suite hk)
end
abbrev Cx.with (X : Cx) (pn : List (Addr × Obj)) (EX : Value -> Shared -> Prop) : Cx := { X with pn := pn, xe := EX }
section
variable {X : Cx} {pins : List (Addr × Obj)} {σ : L2.St} {H : Hp} {s : Shared} {EX : Value -> Shared -> Prop}
theorem Inv.inw (I : Inv X pins σ H s) : Inv (Cx.with X (X.pn ++ pins) EX) [] σ H s :=
  ⟨⟨I.ok.mod, I.ok.kind, I.ok.glob, I.ok.blt, I.ok.above, I.ok.inj, I.ok.has, I.ok.cab, I.ok.hd, I.ok.frames, I.ok.stk, I.ok.exf, I.ok.bs, I.ok.bsz, I.ok.noex, I.ok.exfs, I.ok.funs, I.ok.frf⟩,
    I.os, I.bare, I.base, I.loc, I.cell, I.free, I.freeC, fun p hp => I.pin p (by rw [List.append_nil] at hp; exact hp), I.hok, I.len⟩
theorem Inv.outw {pins' : List (Addr × Obj)} (I : Inv (Cx.with X (X.pn ++ pins) EX) pins' σ H s) : Inv X pins σ H s :=
  ⟨⟨I.ok.mod, I.ok.kind, I.ok.glob, I.ok.blt, I.ok.above, I.ok.inj, I.ok.has, I.ok.cab, I.ok.hd, I.ok.frames, I.ok.stk, I.ok.exf, I.ok.bs, I.ok.bsz, I.ok.noex, I.ok.exfs, I.ok.funs, I.ok.frf⟩,
    I.os, I.bare, I.base, I.loc, I.cell, I.free, I.freeC, fun p hp => I.pin p (List.mem_append_left _ hp), I.hok, I.len⟩
end
def tTry (tb : XK -> TS) (ts : TS) : TS := fun D σ H => tb (fun _ _ H' => ∀ σ' : L2.St, σ'.length = σ.length -> ts D σ' H') D σ H
theorem ps_try {X : Cx} {x : Str} {C : Addr} {bm : List Value} {newId : String} {body suite : List Stmt} {b₀ : Stmt} {np hpos pos : Pos} {tb : XK -> TS} {ts : TS} (hstk : X.stack = X.env :: X.outer) (hfrm : X.env.frame = some X.env.locals) (hg : Gl X x) (hm : X.mg x = some (.ref C)) (q : PySem.W.excIn X.K C bm newId = true) (gb : bm.contains (.type "BaseException") = true)
    (hb : ∀ (pn : List (Addr × Obj)) (EX : Value -> Shared -> Prop) (E : XK), Passes (CXn X.prog X.w C) (Cx.with X pn EX) E -> PSs (Cx.with X pn EX) body (tb E)) (hs : ∀ e, PSs (marked X e fun _ _ => False) (b₀ :: suite) ts)
    (hd : (x == ("__debug__" : Str)) = false := by decide) : PS X (.Try body [.ExceptHandler (some (.Name x np)) none (b₀ :: suite) hpos] [] [] pos) (tTry tb ts) := by
  intro pins s σ H D I h;refine wpAny_Try_except ?_
  refine wpAny_mono (hb (X.pn ++ pins) (fun e s₁ => wpAny (model X.prog X.w) X.A (noteFrame e X.env) (fun _ s₂ => wpAny (model X.prog X.w) X.A (setFlight e none) (fun _ s₃ => wpAny (model X.prog X.w) X.A (handleBy e X.env [.ExceptHandler (some (.Name x np)) none (b₀ :: suite) hpos]) (SP X pins D) X.xe s₃) X.xe s₂) X.xe s₁)
    (fun _ _ H' => ∀ σ' : L2.St, σ'.length = σ.length -> ts D σ' H') ?_ [] s σ H D (Inv.inw I) h) (fun f s1 z => ?_) fun e s1 z => z
  · intro pins' σ' H' s1 e s2 I1 c;obtain ⟨ex, T, H2, rfl, I2, nx, nT, tr, hx, hT, z⟩ := CXn.inv I1 c;have I3 : Inv X pins σ' H2 s2 := Inv.outw I2;have nx' : NewA X pins ex := ⟨nx.1, nx.2.1, nx.2.2.1, fun p hp => nx.2.2.2 p (List.mem_append_left _ hp)⟩;have nT' : NewA X pins T := ⟨nT.1, nT.2.1, nT.2.2.1, fun p hp => nT.2.2.2 p (List.mem_append_left _ hp)⟩;have st := I3.stack;rw [hstk] at st;refine noteOld (outer := X.outer) (by rw [I3.ok.frames, hstk]) st hfrm tr fun h' T' a tr' c' => ?_
    rw [<- hstk] at c'
    have I4 : Inv X pins σ' H2 { s2 with heap := h' } := chg_inv I3 c' fun b hb => by
      rcases List.mem_cons.mp hb with y | y
      · rw [y]; exact ⟨nx', hx⟩
      · rw [List.mem_singleton.mp y]; exact ⟨nT', hT⟩
    have hTn : s2.heap.get? T' = none := Heap.get?_none_of_le a;have nT2 := newA I3 hTn;have hT2 := ok_none I3.hok hTn;obtain ⟨oe, vs, oT, ts', ge, gc, gd, g1, gTe, gT, gdT, g3⟩ := tr';refine handle_own (x := x) (C := C) (bmB := bm) (newId := newId) (mg := X.mg) gb ?_;have IM : Inv (marked X (.ref ex) (notedBy (model X.prog X.w) (X.A.mark (some (.ref ex))) X.env (cameBackBy (model X.prog X.w) X.A X.env X.xe))) pins σ' H2 { s2 with heap := h' } := Inv.mark I4;refine ld_glob IM hg hm ⟨rfl, ownC I4.kIn hm q, ⟨oe, ge, gc⟩, ?_⟩ hd;refine wpAny_setFlight_none ge gd g1 gT gdT (Array.getElem?_eq_some_iff.mp g3).1 ?_;have c5 : Chg [T'] (frs X.stack) h' (h'.update T' (Obj.mapFields (·.setIfInBounds 3 .none))) := ⟨fun b o e hD _ => by rw [Heap.get?_update_other _ _ (fun y => hD (by simp [y]))]; exact e, fun b o e hD => ⟨o.slots, by rw [Heap.get?_update_other _ _ (fun y => hD (by simp [y]))]; exact e⟩⟩;have I5 : Inv X pins σ' H2 { s2 with heap := h'.update T' (Obj.mapFields (·.setIfInBounds 3 .none)) } := chg_inv (s := { s2 with heap := h' }) I4 c5 fun b hb => by rw [List.mem_singleton.mp hb]; exact ⟨nT2, hT2⟩
    refine wpAny_mono (hs (.ref ex) pins _ σ' H2 D (Inv.mark I5) (z σ' (by rw [I5.len, I.len]))) (fun f s6 y => ?_) fun _ _ y => False.elim y
    cases f with
    | next => obtain ⟨σ7, H7, I7, q7⟩ := y; exact ⟨σ7, H7, Inv.unmark I.ok.hd I.ok.frames I7, q7⟩
    | brk => obtain ⟨σ7, H7, I7, q7⟩ := y; exact ⟨σ7, H7, Inv.unmark I.ok.hd I.ok.frames I7, q7⟩
    | cont => obtain ⟨σ7, H7, I7, q7⟩ := y; exact ⟨σ7, H7, Inv.unmark I.ok.hd I.ok.frames I7, q7⟩
    | ret u => obtain ⟨v, σ7, H7, I7, r7, q7⟩ := y; exact ⟨v, σ7, H7, Inv.unmark I.ok.hd I.ok.frames I7, r7, q7⟩
  · cases f with
    | next => obtain ⟨σ7, H7, I7, q7⟩ := z; exact wpAny_execs_nil ⟨σ7, H7, Inv.outw I7, q7⟩
    | brk => obtain ⟨σ7, H7, I7, q7⟩ := z; exact ⟨σ7, H7, Inv.outw I7, q7⟩
    | cont => obtain ⟨σ7, H7, I7, q7⟩ := z; exact ⟨σ7, H7, Inv.outw I7, q7⟩
    | ret u => obtain ⟨v, σ7, H7, I7, r7, q7⟩ := z; exact ⟨v, σ7, H7, Inv.outw I7, r7, q7⟩
end Ex
namespace B6
open Sv20
theorem lor_add {h v k : Nat} (hv : v < 2 ^ k) : Nat.lor (h * 2 ^ k) v = h * 2 ^ k + v := by
  have e := Nat.two_pow_add_eq_or_of_lt hv h;rw [Nat.mul_comm];exact e.symm
theorem land_mod (h b : Nat) : Nat.land h (2 ^ b - 1) = h % 2 ^ b := Nat.and_two_pow_sub_one_eq_mod h b
def sx (c : Int) : Int := if 65 <= c /\ c <= 90 then c - 65 else if 97 <= c /\ c <= 122 then c - 97 + 26 else if 48 <= c /\ c <= 57 then c - 48 + 52 else if c = 45 then 62 else if c = 95 then 63 else -1
theorem six_tab : ∀ c < 256, six c = if sx (c : Int) < 0 then none else some (sx (c : Int)).toNat := by decide +kernel
theorem six_lt {c s : Nat} (h : six c = some s) : s < 64 := by
  unfold six at h;have e := (List.findIdx?_eq_some_iff_findIdx_eq.mp h).1;exact e
def remS (h b : Nat) (r : List Nat) : Option (List Nat) :=
  if b = 0 then sixes r
  else if b = 6 then sixes (h :: r)
  else if b = 4 then (sixes (0 :: h :: r)).map (List.drop 1)
  else (sixes (0 :: 0 :: h :: r)).map (List.drop 2)
theorem s4 (a b c d : Nat) (r : List Nat) : sixes (a :: b :: c :: d :: r) = (sixes r).map fun l => [a * 4 + b / 16, b % 16 * 16 + c / 4, c % 4 * 64 + d] ++ l := by rw [sixes]
theorem s3 (a b c : Nat) : sixes [a, b, c] = if c % 4 = 0 then some [a * 4 + b / 16, b % 16 * 16 + c / 4] else none := by rw [sixes]
theorem s2 (a b : Nat) : sixes [a, b] = if b % 16 = 0 then some [a * 4 + b / 16] else none := by rw [sixes]
theorem s1 (a : Nat) : sixes [a] = none := by rw [sixes]
theorem s0 : sixes [] = some [] := by rw [sixes]
theorem in6 (h s : Nat) (l : List Nat) : remS h 6 (s :: l) = (remS (s % 16) 4 l).map ((h * 4 + s / 16) :: ·) := by
  show sixes (h :: s :: l) = ((sixes (0 :: s % 16 :: l)).map (List.drop 1)).map ((h * 4 + s / 16) :: ·);have e : s % 16 % 16 = s % 16 := by omega
  match l with
  | [] =>
    rw [s2, s2, e]
    split <;> rfl
  | [c] =>
    rw [s3, s3, e]
    split <;> rfl
  | c :: d :: r =>
    rw [s4, s4, e];cases sixes r <;> rfl
theorem in4 (h s : Nat) (hh : h < 16) (l : List Nat) : remS h 4 (s :: l) = (remS (s % 4) 2 l).map ((h * 16 + s / 4) :: ·) := by
  show (sixes (0 :: h :: s :: l)).map (List.drop 1) = ((sixes (0 :: 0 :: s % 4 :: l)).map (List.drop 2)).map ((h * 16 + s / 4) :: ·);have e : s % 4 % 4 = s % 4 := by omega
  have e2 : h % 16 = h := by omega
  match l with
  | [] =>
    rw [s3, s3, e, e2]
    split <;> rfl
  | d :: r =>
    rw [s4, s4, e, e2];cases sixes r <;> rfl
theorem in2 (h s : Nat) (hh : h < 4) (l : List Nat) : remS h 2 (s :: l) = (remS 0 0 l).map ((h * 64 + s) :: ·) := by
  show (sixes (0 :: 0 :: h :: s :: l)).map (List.drop 2) = (sixes l).map ((h * 64 + s) :: ·);have e2 : h % 4 = h := by omega
  rw [s4, e2];cases sixes l <;> rfl
def Got (i h b : Nat) : Prop := (i % 4 = 0 /\ b = 0 /\ h = 0) \/ (i % 4 = 1 /\ b = 6 /\ h < 64) \/ (i % 4 = 2 /\ b = 4 /\ h < 16) \/ (i % 4 = 3 /\ b = 2 /\ h < 4)
theorem got_lt {i h b : Nat} (g : Got i h b) : h < 64 /\ b <= 6 := by unfold Got at g; omega
theorem mapM_cons_six (v : Nat) (r : List Nat) : (v :: r).mapM six = (six v).bind fun s => (r.mapM six).map fun l => s :: l := by
  rw [List.mapM_cons];cases six v with
  | none => rfl
  | some s => cases r.mapM six <;> rfl
def Reads (t out : List Nat) (h b : Nat) (rest : List Nat) : Prop := unpacked t = ((rest.mapM six).bind (remS h b)).map fun l => out ++ l
theorem reads0 (t : List Nat) : Reads t [] 0 0 t := by
  show unpacked t = ((t.mapM six).bind sixes).map fun l => [] ++ l
  unfold unpacked;cases (t.mapM six).bind sixes <;> rfl
theorem reads_no {t out : List Nat} {h b c : Nat} {r : List Nat} (R : Reads t out h b (c :: r)) (hc : six c = none) : unpacked t = none := by
  have e : unpacked t = _ := R;rw [e, mapM_cons_six, hc]; rfl
theorem reads_go {t out : List Nat} {h b c s : Nat} {r : List Nat} (R : Reads t out h b (c :: r)) (hc : six c = some s) : unpacked t = ((r.mapM six).bind fun l => remS h b (s :: l)).map fun l => out ++ l := by
  have e : unpacked t = _ := R;rw [e, mapM_cons_six, hc];cases r.mapM six <;> rfl
theorem reads_hold {t out : List Nat} {i c s : Nat} {r : List Nat} (R : Reads t out 0 0 (c :: r)) (hc : six c = some s) : Reads t out s 6 r := by
  show unpacked t = _;rw [reads_go R hc]; rfl
theorem reads_put {t out : List Nat} {h b b' h' c s x : Nat} {r : List Nat} (R : Reads t out h b (c :: r)) (hc : six c = some s) (e : ∀ l, remS h b (s :: l) = (remS h' b' l).map (x :: ·)) : Reads t (out ++ [x]) h' b' r := by
  show unpacked t = _;rw [reads_go R hc];cases r.mapM six with
  | none => rfl
  | some l =>
    show (remS h b (s :: l)).map _ = (remS h' b' l).map _;rw [e l];cases remS h' b' l with
    | none => rfl
    | some k =>
      show some (out ++ (x :: k)) = some ((out ++ [x]) ++ k);rw [List.append_assoc]; rfl
theorem reads_turn {t out : List Nat} {i h b c s : Nat} {r : List Nat} (g : Got i h b) (R : Reads t out h b (c :: r)) (hc : six c = some s) :
    (b + 6 < 8 -> Reads t out (h * 64 + s) (b + 6) r /\ Got (i + 1) (h * 64 + s) (b + 6)) /\
    (8 <= b + 6 -> Reads t (out ++ [(h * 64 + s) / 2 ^ (b - 2)]) ((h * 64 + s) % 2 ^ (b - 2)) (b - 2) r /\ Got (i + 1) ((h * 64 + s) % 2 ^ (b - 2)) (b - 2)) := by
  have hs := six_lt hc;rcases g with ⟨gi, rfl, rfl⟩ | ⟨gi, rfl, hh⟩ | ⟨gi, rfl, hh⟩ | ⟨gi, rfl, hh⟩
  · refine ⟨fun _ => ?_, fun z => absurd z (by decide)⟩;rw [Nat.zero_mul, Nat.zero_add, Nat.zero_add];exact ⟨reads_hold (i := i) R hc, .inr (.inl ⟨by omega, rfl, hs⟩)⟩
  · refine ⟨fun z => absurd z (by decide), fun _ => ?_⟩;show Reads t (out ++ [(h * 64 + s) / 16]) ((h * 64 + s) % 16) 4 r /\ Got (i + 1) ((h * 64 + s) % 16) 4;have e1 : (h * 64 + s) / 16 = h * 4 + s / 16 := by omega
    have e2 : (h * 64 + s) % 16 = s % 16 := by omega
    rw [e1, e2];exact ⟨reads_put R hc fun l => in6 h s l, .inr (.inr (.inl ⟨by omega, rfl, by omega⟩))⟩
  · refine ⟨fun z => absurd z (by decide), fun _ => ?_⟩;show Reads t (out ++ [(h * 64 + s) / 4]) ((h * 64 + s) % 4) 2 r /\ Got (i + 1) ((h * 64 + s) % 4) 2;have e1 : (h * 64 + s) / 4 = h * 16 + s / 4 := by omega
    have e2 : (h * 64 + s) % 4 = s % 4 := by omega
    rw [e1, e2];exact ⟨reads_put R hc fun l => in4 h s hh l, .inr (.inr (.inr ⟨by omega, rfl, by omega⟩))⟩
  · refine ⟨fun z => absurd z (by decide), fun _ => ?_⟩;show Reads t (out ++ [(h * 64 + s) / 1]) ((h * 64 + s) % 1) 0 r /\ Got (i + 1) ((h * 64 + s) % 1) 0;rw [Nat.div_one, Nat.mod_one];exact ⟨reads_put R hc fun l => in2 h s hh l, .inl ⟨by omega, rfl, rfl⟩⟩
theorem reads_end {t out : List Nat} {i h b : Nat} (g : Got i h b) (hi : ¬ i % 4 = 1) (R : Reads t out h b []) : unpacked t = if h = 0 then some out else none := by
  have e : unpacked t = (remS h b []).map fun l => out ++ l := R
  rw [e]
  have key : remS h b [] = if h = 0 then some [] else none := by
    rcases g with ⟨gi, rfl, rfl⟩ | ⟨gi, rfl, hh⟩ | ⟨gi, rfl, hh⟩ | ⟨gi, rfl, hh⟩
    · exact s0
    · exact absurd gi hi
    · show (sixes [0, h]).map (List.drop 1) = _;rw [s2];by_cases hz : h = 0
      · subst hz; rfl
      · rw [if_neg hz, if_neg (by omega)]; rfl
    · show (sixes [0, 0, h]).map (List.drop 2) = _;rw [s3];by_cases hz : h = 0
      · subst hz; rfl
      · rw [if_neg hz, if_neg (by omega)]; rfl
  rw [key];by_cases hz : h = 0
  · rw [if_pos hz, if_pos hz];show some (out ++ []) = some out;rw [List.append_nil]
  · rw [if_neg hz, if_neg hz]; rfl
theorem sixes_one : ∀ (l : List Nat), l.length % 4 = 1 -> sixes l = none
  | [], h => by simp at h
  | [a], _ => s1 a
  | [a, b], h => by simp at h
  | [a, b, c], h => by simp at h
  | a :: b :: c :: d :: r, h => by
    rw [s4, sixes_one r (by simp only [List.length_cons] at h; omega)];rfl
theorem mapM_six : ∀ (l k : List Nat), l.mapM six = some k -> k.length = l.length /\ ∀ x ∈ k, x < 64
  | [], k, h => by cases h; exact ⟨rfl, fun x hx => by cases hx⟩
  | v :: r, k, h => by
    rw [mapM_cons_six] at h;cases hv : six v with
    | none => rw [hv] at h; cases h
    | some s =>
      rw [hv] at h;cases hr : r.mapM six with
      | none => rw [hr] at h; cases h
      | some l' =>
        rw [hr] at h;cases h;obtain ⟨e1, e2⟩ := mapM_six r l' hr;refine ⟨by rw [List.length_cons, List.length_cons, e1], fun x hx => ?_⟩;rcases List.mem_cons.mp hx with rfl | hx
        · exact six_lt hv
        · exact e2 x hx
theorem unpacked_one {t : List Nat} (h : t.length % 4 = 1) : unpacked t = none := by
  unfold unpacked;cases hm : t.mapM six with
  | none => rfl
  | some k => exact sixes_one k (by have := (mapM_six _ _ hm).1; omega)
theorem sixes_in : ∀ (l d : List Nat), sixes l = some d -> (∀ x ∈ l, x < 64) -> d.length <= l.length /\ ∀ x ∈ d, x < 256
  | [], d, h, _ => by rw [s0] at h; cases h; exact ⟨Nat.le_refl _, fun x hx => by cases hx⟩
  | [a], d, h, _ => by rw [s1] at h; cases h
  | [a, b], d, h, hl => by
    rw [s2] at h;have ha := hl a (by simp);have hb := hl b (by simp)
    split at h
    · cases h;exact ⟨by show 1 <= 2; decide, fun x hx => by rw [List.mem_singleton.mp hx]; omega⟩
    · cases h
  | [a, b, c], d, h, hl => by
    rw [s3] at h;have ha := hl a (by simp);have hb := hl b (by simp);have hc := hl c (by simp)
    split at h
    · cases h;refine ⟨by show 2 <= 3; decide, fun x hx => ?_⟩;simp only [List.mem_cons, List.not_mem_nil, or_false] at hx;rcases hx with rfl | rfl <;> omega
    · cases h
  | a :: b :: c :: e :: r, d, h, hl => by
    rw [s4] at h;have ha := hl a (by simp);have hb := hl b (by simp);have hc := hl c (by simp);have he := hl e (by simp);cases hr : sixes r with
    | none => rw [hr] at h; cases h
    | some k =>
      rw [hr] at h;cases h;obtain ⟨e1, e2⟩ := sixes_in r k hr (fun x hx => hl x (by simp [hx]));refine ⟨by simp only [List.length_append, List.length_cons, List.length_nil]; omega, fun x hx => ?_⟩;rcases List.mem_append.mp hx with hx | hx
      · simp only [List.mem_cons, List.not_mem_nil, or_false] at hx;rcases hx with rfl | rfl | rfl <;> omega
      · exact e2 x hx
theorem unpacked_in {t d : List Nat} (h : unpacked t = some d) : d.length <= t.length /\ ∀ x ∈ d, x < 256 := by
  unfold unpacked at h;cases hm : t.mapM six with
  | none => rw [hm] at h; cases h
  | some k =>
    rw [hm] at h;obtain ⟨e1, e2⟩ := mapM_six _ _ hm;obtain ⟨e3, e4⟩ := sixes_in k d h e2;exact ⟨by omega, e4⟩
end B6
namespace MN
open Sv20
theorem dw (q : Nat -> Bool) : ∀ (b : List Nat), b.takeWhile q ++ b.drop (b.takeWhile q).length = b
  | [] => rfl
  | x :: b => by
    by_cases h : q x = true
    · rw [List.takeWhile_cons, if_pos h, List.length_cons, List.drop_succ_cons, List.cons_append, dw q b]
    · rw [List.takeWhile_cons, if_neg h]; rfl
theorem tw_all (q : Nat -> Bool) : ∀ (b : List Nat), (b.takeWhile q).all q = true
  | [] => rfl
  | x :: b => by
    by_cases h : q x = true
    · rw [List.takeWhile_cons, if_pos h, List.all_cons, h, tw_all q b]; rfl
    · rw [List.takeWhile_cons, if_neg h]; rfl
theorem digits_app {b d r : List Nat} (h : digits b = some (d, r)) : d ++ r = b /\ d.all digit = true /\ d ≠ [] := by
  unfold digits at h;have h : (if b.takeWhile digit = [] then none else some (b.takeWhile digit, b.drop (b.takeWhile digit).length)) = some (d, r) := h;by_cases e : b.takeWhile digit = []
  · rw [if_pos e] at h; cases h
  · rw [if_neg e] at h;have h := Prod.mk.inj (Option.some.inj h);rw [<- h.1, <- h.2];exact ⟨dw digit b, tw_all digit b, e⟩
theorem not_all {a b : List Nat} {c : Nat} (hc : digit c = false) : (a ++ c :: b).all digit = false := by
  rw [List.all_append, List.all_cons, hc];cases a.all digit <;> rfl
theorem number_app {b x r : List Nat} (h : number b = some (x, r)) : x ++ r = b /\ (x.all digit = true -> 1 < x.length -> x.head? ≠ some 48) := by
  unfold number at h;obtain ⟨m, hm⟩ : ∃ m : List Nat, m = if b.head? = some 45 then [45] else [] := ⟨_, rfl⟩
  have hb : m ++ b.drop m.length = b /\ (m = [] \/ m = [45]) := by
    rw [hm];by_cases e : b.head? = some 45
    · rw [if_pos e];cases b with
      | nil => cases e
      | cons c b => cases e; exact ⟨rfl, .inr rfl⟩
    · rw [if_neg e]; exact ⟨rfl, .inl rfl⟩
  simp only [<- hm] at h;cases hd : digits (b.drop m.length) with
  | none => rw [hd] at h; cases h
  | some y =>
    obtain ⟨d, s⟩ := y;obtain ⟨a1, a2, a3⟩ := digits_app hd;rw [hd] at h;simp only [Option.bind_some] at h;by_cases hz : 1 < d.length /\ d.head? = some 48
    · rw [if_pos hz] at h; cases h
    · rw [if_neg hz] at h
      have key : ∀ (fr : Option (List Nat × List Nat)), (∀ y, fr = some y -> (y.1 ++ y.2 = s /\ (y.1 = [] \/ ∃ z, y.1 = 46 :: z))) -> (fr.bind fun y => match y.2 with
          | e :: r => if e = 101 \/ e = 69 then (digits (r.drop (if r.head? = some 43 \/ r.head? = some 45 then r.take 1 else []).length)).map fun z => (m ++ d ++ y.1 ++ (e :: ((if r.head? = some 43 \/ r.head? = some 45 then r.take 1 else []) ++ z.1)), z.2)
            else some (m ++ d ++ y.1, y.2)
          | [] => some (m ++ d ++ y.1, [])) = some (x, r) -> x ++ r = b /\ (x.all digit = true -> 1 < x.length -> x.head? ≠ some 48) := by
        intro fr hfr h;cases hf : fr with
        | none => rw [hf] at h; cases h
        | some y =>
          obtain ⟨f1, f2⟩ := hfr y hf;rw [hf] at h;simp only [Option.bind_some] at h
          have plain : ∀ r', y.2 = r' -> x = m ++ d ++ y.1 -> r = r' -> x ++ r = b /\ (x.all digit = true -> 1 < x.length -> x.head? ≠ some 48) := by
            intro r' e1 e2 e3;refine ⟨?_, fun ha hl => ?_⟩
            · rw [e2, e3, <- e1, List.append_assoc, f1, List.append_assoc, a1, hb.1]
            · rw [e2] at ha hl ⊢;rcases f2 with f2 | ⟨z, f2⟩
              · rcases hb.2 with m0 | m0
                · rw [f2, m0, List.append_nil, List.nil_append] at ha hl ⊢;exact fun q => hz ⟨hl, q⟩
                · rw [m0] at ha;rw [show ([45] : List Nat) ++ d ++ y.1 = [] ++ 45 :: (d ++ y.1) from rfl, not_all rfl] at ha;cases ha
              · rw [f2, not_all rfl] at ha; cases ha
          cases hy : y.2 with
          | nil =>
            rw [hy] at h;have h := Prod.mk.inj (Option.some.inj h);exact plain [] hy h.1.symm h.2.symm
          | cons e q =>
            rw [hy] at h;simp only [] at h;by_cases he : e = 101 \/ e = 69
            · rw [if_pos he] at h;obtain ⟨sg, hs⟩ : ∃ sg : List Nat, sg = if q.head? = some 43 \/ q.head? = some 45 then q.take 1 else [] := ⟨_, rfl⟩
              have hq : sg ++ q.drop sg.length = q := by
                rw [hs];by_cases c : q.head? = some 43 \/ q.head? = some 45
                · rw [if_pos c];cases q with
                  | nil => rfl
                  | cons _ _ => rfl
                · rw [if_neg c]; rfl
              simp only [<- hs] at h;cases hz2 : digits (q.drop sg.length) with
              | none => rw [hz2] at h; cases h
              | some z =>
                rw [hz2] at h;obtain ⟨z1, z2, z3⟩ := digits_app (d := z.1) (r := z.2) hz2;have h := Prod.mk.inj (Option.some.inj h);refine ⟨?_, fun ha => ?_⟩
                · rw [<- h.1, <- h.2];have e1 : sg ++ z.1 ++ z.2 = q := by rw [List.append_assoc, z1, hq]
                  have e2 : y.1 ++ (e :: (sg ++ z.1)) ++ z.2 = s := by
                    rw [List.append_assoc, List.cons_append, e1, <- hy, f1]
                  rw [List.append_assoc (m ++ d), List.append_assoc, e2, List.append_assoc, a1, hb.1]
                · rw [<- h.1, not_all (by rcases he with rfl | rfl <;> rfl)] at ha;cases ha
            · rw [if_neg he] at h;have h := Prod.mk.inj (Option.some.inj h);exact plain (e :: q) hy h.1.symm h.2.symm
      refine key _ ?_ h;intro y hy
      split at hy
      · rename_i r'
        cases hd2 : digits r' with
        | none => rw [hd2] at hy; cases hy
        | some z =>
          rw [hd2] at hy;obtain ⟨z1, _, _⟩ := digits_app (d := z.1) (r := z.2) hd2;have e := (Option.some.inj hy).symm;rw [e];exact ⟨by show (46 :: z.1) ++ z.2 = _; rw [List.cons_append, z1], .inr ⟨_, rfl⟩⟩
      · have e := (Option.some.inj hy).symm;rw [e];exact ⟨rfl, .inl rfl⟩
end MN
namespace M5
open Sv20
open Sv20Neutral (nats)
theorem size_n {n : Nat} (h : n <= 100000) : size (n : Int) = true := by
  unfold size within;rw [Bool.and_eq_true, decide_eq_true_eq, decide_eq_true_eq];omega
theorem within_t {z lo hi : Int} (h : lo <= z /\ z <= hi) : within z lo hi = true := by
  unfold within;rw [Bool.and_eq_true, decide_eq_true_eq, decide_eq_true_eq];exact h
theorem within_f {z lo hi : Int} (h : ¬ (lo <= z /\ z <= hi)) : within z lo hi = false := by
  cases e : within z lo hi with
  | false => rfl
  | true =>
    unfold within at e;rw [Bool.and_eq_true, decide_eq_true_eq, decide_eq_true_eq] at e;exact absurd e h
theorem check_bad {now slack i a : Int} {t x y z : List Int} (h : ¬ ((-1 <= i /\ i <= 1024) /\ -1 <= a /\ a <= 1024)) : PySv20.tk_check now slack i a t x y z = [-2] := by
  show (does (.check (nats t) (t.length : Int) (nats x) (x.length : Int) now.toNat slack.toNat (nats y) i (nats z) a)).v :: Sv20Neutral.ints (does (.check (nats t) (t.length : Int) (nats x) (x.length : Int) now.toNat slack.toNat (nats y) i (nats z) a)).l = _
  have e : does (.check (nats t) (t.length : Int) (nats x) (x.length : Int) now.toNat slack.toNat (nats y) i (nats z) a) = ok (-2) := by
    show (if (size (t.length : Int) && (within (x.length : Int) 0 65536 && (within i (-1) 1024 && within a (-1) 1024))) = false then _ else _) = _;rw [if_pos];cases size (t.length : Int) with
    | false => rfl
    | true =>
      cases within (x.length : Int) 0 65536 with
      | false => rfl
      | true =>
        show (within i (-1) 1024 && within a (-1) 1024) = false;by_cases hi : -1 <= i /\ i <= 1024
        · rw [within_t hi, within_f (fun q => h ⟨hi, q⟩)]; rfl
        · rw [within_f hi]; rfl
  rw [e]; rfl
theorem check_is {now slack i a : Int} {t x y z : List Int} (ht : t.length <= 100000) (hx : x.length <= 65536) (hi : -1 <= i /\ i <= 1024) (ha : -1 <= a /\ a <= 1024) :
    PySv20.tk_check now slack i a t x y z = match keysOf (x.length + 1) (nats x) with
      | none => [-3]
      | some l => [((checked (nats t) l now.toNat slack.toNat (asked i (nats y)) (asked a (nats z)) : Nat) : Int)] := by
  show (does (.check (nats t) (t.length : Int) (nats x) (x.length : Int) now.toNat slack.toNat (nats y) i (nats z) a)).v :: Sv20Neutral.ints (does (.check (nats t) (t.length : Int) (nats x) (x.length : Int) now.toNat slack.toNat (nats y) i (nats z) a)).l = _;have el : (nats x).length = x.length := List.length_map _
  have e : does (.check (nats t) (t.length : Int) (nats x) (x.length : Int) now.toNat slack.toNat (nats y) i (nats z) a) = match keysOf (x.length + 1) (nats x) with
      | none => ok (-3)
      | some l => ok (checked (nats t) l now.toNat slack.toNat (asked i (nats y)) (asked a (nats z)) : Nat) := by
    show (if (size (t.length : Int) && (within (x.length : Int) 0 65536 && (within i (-1) 1024 && within a (-1) 1024))) = false then _ else match keysOf ((nats x).length + 1) (nats x) with | none => _ | some l => _) = _;rw [size_n ht, within_t (by omega), within_t hi, within_t ha, if_neg (by decide), el]
  rw [e];cases keysOf (x.length + 1) (nats x) <;> rfl
theorem split_no {k : Nat} : ∀ {b w : List Nat}, k ∉ b -> splitBy k b w = [w ++ b]
  | [], w, _ => by rw [splitBy, List.append_nil]
  | c :: r, w, h => by
    rw [splitBy, if_neg (fun e => h (by rw [e]; exact List.mem_cons_self)), split_no (fun m => h (List.mem_cons_of_mem _ m)), List.append_assoc]; rfl
theorem split_at {k : Nat} : ∀ {b r w : List Nat}, k ∉ b -> splitBy k (b ++ k :: r) w = (w ++ b) :: splitBy k r []
  | [], r, w, _ => by show splitBy k (k :: r) w = _; rw [splitBy, if_pos rfl, List.append_nil]
  | c :: b, r, w, h => by
    show splitBy k (c :: (b ++ k :: r)) w = _;rw [splitBy, if_neg (fun e => h (by rw [e]; exact List.mem_cons_self)), split_at (fun m => h (List.mem_cons_of_mem _ m)), List.append_assoc]; rfl
theorem split_len {k : Nat} : ∀ {b w : List Nat}, (splitBy k b w).length = b.count k + 1
  | [], w => by rw [splitBy]; rfl
  | c :: r, w => by
    rw [splitBy, List.count_cons];by_cases h : c = k
    · rw [if_pos h, List.length_cons, split_len, if_pos (by simp [h])]
    · rw [if_neg h, split_len, if_neg (by simp [h])]
end M5
namespace MT
open Sv20
def pts (t : List Nat) (n : Nat) : List Nat := (List.range n).filter fun j => decide (t[j]? = some 46)
theorem pts_succ (t : List Nat) (n : Nat) : pts t (n + 1) = pts t n ++ if t[n]? = some 46 then [n] else [] := by
  unfold pts;rw [List.range_succ, List.filter_append]
  congr 1
  by_cases h : t[n]? = some 46
  · rw [if_pos h, List.filter_cons_of_pos (by exact decide_eq_true h)]; rfl
  · rw [if_neg h, List.filter_cons_of_neg (by intro z; exact h (of_decide_eq_true z))]; rfl
theorem mem_pts {t : List Nat} {n m : Nat} : m ∈ pts t n ↔ m < n /\ t[m]? = some 46 := by
  unfold pts;rw [List.mem_filter, List.mem_range, decide_eq_true_eq]
theorem pts_le (t : List Nat) (n : Nat) : (pts t n).length <= n := by
  have := List.length_filter_le (fun j => decide (t[j]? = some 46)) (List.range n);rw [List.length_range] at this;exact this
theorem pts_count (t : List Nat) : ∀ n, n <= t.length -> (pts t n).length = (t.take n).count 46
  | 0, _ => rfl
  | n + 1, h => by
    have hn : t[n]? = some t[n] := List.getElem?_eq_getElem (by omega);rw [pts_succ, List.length_append, pts_count t n (by omega), List.take_add_one, List.count_append, hn]
    congr 1
    by_cases e : t[n] = 46
    · rw [e, if_pos rfl]; rfl
    · rw [if_neg (fun z => e (Option.some.inj z))];show 0 = [t[n]].count 46;rw [List.count_cons, if_neg (by simpa using e)];rfl
theorem token_no {t : List Nat} (h : (pts t t.length).length ≠ 2) : tokenOf t = none := by
  rw [pts_count t _ (Nat.le_refl _), List.take_length] at h;have := M5.split_len (k := 46) (b := t) (w := []);unfold tokenOf
  split
  · rename_i e
    rw [e] at this;exact absurd (Nat.succ.inj this).symm h
  · rfl
theorem token_two {t : List Nat} {i j : Nat} (h : pts t t.length = [i, j]) : i < j /\ j < t.length /\ splitBy 46 t [] = [t.take i, (t.drop (i + 1)).take (j - (i + 1)), t.drop (j + 1)] /\ t.take j = t.take i ++ 46 :: (t.drop (i + 1)).take (j - (i + 1)) := by
  have hp : (pts t t.length).Pairwise (· < ·) := List.Pairwise.filter _ List.pairwise_lt_range;rw [h] at hp
  have hij : i < j := by
    cases hp with
    | cons a b => exact a j (by simp)
  have hi := mem_pts.mp (show i ∈ pts t t.length by rw [h]; simp);have hj := mem_pts.mp (show j ∈ pts t t.length by rw [h]; simp)
  have only : ∀ m, t[m]? = some 46 -> m = i \/ m = j := fun m hm => by
    have hl := (List.getElem?_eq_some_iff.mp hm).1;have : m ∈ pts t t.length := mem_pts.mpr ⟨hl, hm⟩;rw [h] at this;simpa using this
  have di : t.drop i = 46 :: t.drop (i + 1) := by
    rw [List.drop_eq_getElem_cons hi.1]
    congr 1
    have := hi.2;rw [List.getElem?_eq_getElem hi.1] at this;exact Option.some.inj this
  have dj : t.drop j = 46 :: t.drop (j + 1) := by
    rw [List.drop_eq_getElem_cons hj.1]
    congr 1
    have := hj.2;rw [List.getElem?_eq_getElem hj.1] at this;exact Option.some.inj this
  have n1 : 46 ∉ t.take i := fun m => by
    obtain ⟨k, hk, e⟩ := List.getElem_of_mem m;rw [List.length_take] at hk;have e2 : t[k]? = some 46 := by rw [<- e, List.getElem_take, <- List.getElem?_eq_getElem]
    rcases only k e2 with z | z <;> omega
  have n2 : 46 ∉ (t.drop (i + 1)).take (j - (i + 1)) := fun m => by
    obtain ⟨k, hk, e⟩ := List.getElem_of_mem m;rw [List.length_take, List.length_drop] at hk;have e2 : t[i + 1 + k]? = some 46 := by rw [<- e, List.getElem_take, List.getElem_drop, <- List.getElem?_eq_getElem]
    rcases only _ e2 with z | z <;> omega
  have n3 : 46 ∉ t.drop (j + 1) := fun m => by
    obtain ⟨k, hk, e⟩ := List.getElem_of_mem m;rw [List.length_drop] at hk;have e2 : t[j + 1 + k]? = some 46 := by rw [<- e, List.getElem_drop, <- List.getElem?_eq_getElem]
    rcases only _ e2 with z | z <;> omega
  have e1 : t = t.take i ++ 46 :: t.drop (i + 1) := by rw [<- di, List.take_append_drop]
  have e2 : t.drop (i + 1) = (t.drop (i + 1)).take (j - (i + 1)) ++ 46 :: t.drop (j + 1) := by
    have : t.drop j = (t.drop (i + 1)).drop (j - (i + 1)) := by rw [List.drop_drop]; congr 1; omega
    rw [<- dj, this, List.take_append_drop]
  refine ⟨hij, hj.1, ?_, ?_⟩
  · conv => lhs; rw [e1]
    rw [M5.split_at n1]
    conv => lhs; rw [e2]
    rw [M5.split_at n2, M5.split_no n3];rfl
  · have : t.take j = t.take (i + (1 + (j - (i + 1)))) := by congr 1; omega
    rw [this, List.take_add, di, Nat.add_comm 1, List.take_succ_cons]
theorem token_is {t : List Nat} {i j : Nat} (h : pts t t.length = [i, j]) : tokenOf t = (unpacked (t.take i)).bind fun x => (unpacked ((t.drop (i + 1)).take (j - (i + 1)))).bind fun y => (unpacked (t.drop (j + 1))).map fun z => ⟨x, y, z, t.take j⟩ := by
  obtain ⟨_, _, e, e2⟩ := token_two h;unfold tokenOf;rw [e, e2]
end MT
namespace ME
open Sv20
def dval (b : List Nat) : Nat := b.foldl (fun n c => 10 * n + (c - 48)) 0
theorem dval_snoc (l : List Nat) (c : Nat) : dval (l ++ [c]) = 10 * dval l + (c - 48) := by
  unfold dval;rw [List.foldl_append]; rfl
theorem fold_ge : ∀ (r : List Nat) (n : Nat), n * 10 ^ r.length <= r.foldl (fun n c => 10 * n + (c - 48)) n
  | [], n => by simp
  | c :: r, n => by
    have h := fold_ge r (10 * n + (c - 48));rw [List.foldl_cons, List.length_cons, Nat.pow_succ];refine Nat.le_trans ?_ h;rw [show n * (10 ^ r.length * 10) = (10 * n) * 10 ^ r.length by rw [Nat.mul_comm (10 ^ r.length) 10, <- Nat.mul_assoc, Nat.mul_comm n 10]];exact Nat.mul_le_mul_right _ (Nat.le_add_right _ _)
theorem dval_big {b : List Nat} (ha : b.all digit = true) (hn : 1 < b.length -> b.head? ≠ some 48) (hl : 16 < b.length) : ¬ dval b < 2 ^ 53 := by
  cases b with
  | nil => simp at hl
  | cons c r =>
    have hc := hn (by omega);rw [List.all_cons, Bool.and_eq_true] at ha;have hd := ha.1;unfold digit at hd;rw [Bool.and_eq_true, decide_eq_true_eq, decide_eq_true_eq] at hd;have h48 : c ≠ 48 := fun z => hc (by rw [z]; rfl)
    rw [List.length_cons] at hl
    have h1 : (c - 48) * 10 ^ r.length <= dval (c :: r) := by
      have := fold_ge r (c - 48);unfold dval;rw [List.foldl_cons, Nat.mul_zero, Nat.zero_add];exact this
    have h2 : 10 ^ 16 <= 10 ^ r.length := Nat.pow_le_pow_right (by decide) (by omega);have h3 : 1 * 10 ^ r.length <= (c - 48) * 10 ^ r.length := Nat.mul_le_mul_right _ (by omega);have h4 : (2 : Nat) ^ 53 < 10 ^ 16 := by decide
    omega
theorem whole_num (b : List Nat) : wholeOf (.number b) = if b.all digit = true /\ dval b < 2 ^ 53 then some (dval b) else none := rfl
theorem whole_is (b : List Nat) : (wholeOf (.number b)).isSome = (b.all digit && decide (dval b < 2 ^ 53)) := by
  rw [whole_num];cases h : b.all digit with
  | false => rw [if_neg (by simp)]; rfl
  | true =>
    by_cases h2 : dval b < 2 ^ 53
    · rw [if_pos ⟨rfl, h2⟩, decide_eq_true h2]; rfl
    · rw [if_neg (fun z => h2 z.2), decide_eq_false h2]; rfl
theorem mapM_some : ∀ l : List Json, (l.mapM isString).isSome = l.all fun x => (isString x).isSome
  | [] => rfl
  | x :: l => by
    rw [List.mapM_cons, List.all_cons, <- mapM_some l];cases isString x with
    | none => rfl
    | some b => cases l.mapM isString <;> rfl
theorem strings_arr (l : List Json) : (strings (.array l)).isSome = l.all fun x => (isString x).isSome := mapM_some l
theorem strings_get : ∀ (l : List Json) (bs : List (List Nat)), l.mapM isString = some bs -> l = bs.map Json.string
  | [], bs, h => by cases h; rfl
  | x :: l, bs, h => by
    rw [List.mapM_cons] at h;cases hx : isString x with
    | none => rw [hx] at h; cases h
    | some b =>
      cases hl : l.mapM isString with
      | none => rw [hx, hl] at h; cases h
      | some r =>
        rw [hx, hl] at h;have e := (Option.some.inj h).symm;subst e;rw [List.map_cons, <- strings_get l r hl];cases x with
        | string b' => cases hx; rfl
        | _ => cases hx
end ME
namespace MF
open PySem PySem.Spec PyProof.Rows
def dI (l : List Nat) : List PyData := l.map fun (n : Nat) => PyData.int (n : Int)
theorem eqvAll_nv : ∀ l m : List Nat, PyData.eqvAll (dI l) (dI m) = decide (l = m)
  | [], [] => rfl
  | [], y :: m => by rw [decide_eq_false (by intro z; cases z)]; rfl
  | x :: l, [] => by rw [decide_eq_false (by intro z; cases z)]; rfl
  | x :: l, y :: m => by
    show (((x : Int) == (y : Int)) && PyData.eqvAll (dI l) (dI m)) = _;rw [eqvAll_nv l m, Bool.eq_iff_iff, Bool.and_eq_true, decide_eq_true_eq, decide_eq_true_eq, beq_iff_eq];constructor
    · rintro ⟨h1, h2⟩;have : x = y := by omega
      rw [this, h2]
    · intro h;obtain ⟨h1, h2⟩ := List.cons.inj h;exact ⟨by rw [h1], h2⟩
theorem eqv_nv (l m : List Nat) : PyData.eqv (.list (dI l)) (.list (dI m)) = decide (l = m) := eqvAll_nv l m
theorem lay_nv : ∀ l : List Nat, PyData.canLayAll0 (dI l) = true
  | [] => rfl
  | x :: l => by
    show (true && PyData.canLayAll0 (dI l)) = true;rw [lay_nv l]; rfl
theorem depth_nv : ∀ l : List Nat, PyData.depthAll (dI l) = 0
  | [] => rfl
  | x :: l => by
    show max 0 (PyData.depthAll (dI l)) = 0;rw [depth_nv l]; rfl
theorem shaped_nv (l : List Nat) : SeqAt.shaped (.list (dI l)) = true := by
  show (PyData.canLayAll0 (dI l) && decide (PyData.depthAll (dI l) + 1 <= 64)) = true;rw [lay_nv, depth_nv]; rfl
def dL (ls : List (List Nat)) : List PyData := ls.map fun l => PyData.list (dI l)
theorem lay_dL : ∀ ls : List (List Nat), PyData.canLayAll0 (dL ls) = true
  | [] => rfl
  | x :: l => by
    show (PyData.canLayAll0 (dI x) && PyData.canLayAll0 (dL l)) = true;rw [lay_nv, lay_dL l]; rfl
theorem any_dL (ls : List (List Nat)) (a : List Nat) : (dL ls).any (fun y => y.eqv (.list (dI a))) = ls.contains a := by
  unfold dL;rw [List.any_map]
  induction ls with
  | nil => rfl
  | cons l ls ih =>
    rw [List.any_cons, List.contains_cons, ih]
    congr 1
    show PyData.eqv (.list (dI l)) (.list (dI a)) = _;rw [eqv_nv];by_cases h : l = a
    · rw [h, decide_eq_true rfl, beq_self_eq_true]
    · rw [decide_eq_false h, beq_eq_false_iff_ne.mpr (Ne.symm h)]
end MF
namespace MG
open Sv20
theorem drop_c {t : List Nat} {p b : Nat} (h : t[p]? = some b) : t.drop p = b :: t.drop (p + 1) := by
  obtain ⟨hp, rfl⟩ := List.getElem?_eq_some_iff.mp h;exact List.drop_eq_getElem_cons hp
theorem keys_end {t : List Nat} {p f : Nat} (h : t.length <= p) : keysOf (f + 1) (t.drop p) = some [] := by
  rw [List.drop_eq_nil_of_le h, keysOf]
theorem keys_no {t : List Nat} {p f n : Nat} (h : t[p]? = some n) (hl : t.length <= p + 1 + n) : keysOf (f + 1) (t.drop p) = none := by
  rw [drop_c h, keysOf, List.drop_drop, List.drop_eq_nil_of_le (by omega)]
theorem keys_bad {t : List Nat} {p f n k : Nat} (h : t[p]? = some n) (hk : t[p + 1 + n]? = some k) (hb : k < 1 \/ 64 < k \/ t.length < p + 1 + n + 1 + k) : keysOf (f + 1) (t.drop p) = none := by
  rw [drop_c h, keysOf, List.drop_drop, drop_c hk];have hl := (List.getElem?_eq_some_iff.mp hk).1;simp only [];rw [if_pos];rcases hb with z | z | z
  · exact .inr (.inl z)
  · exact .inr (.inr (.inl z))
  · exact .inr (.inr (.inr (by rw [List.length_drop]; omega)))
theorem keys_step {t : List Nat} {p f n k : Nat} (h : t[p]? = some n) (hk : t[p + 1 + n]? = some k) (h1 : 1 <= k) (h2 : k <= 64) (h3 : p + 1 + n + 1 + k <= t.length) :
    keysOf (f + 1) (t.drop p) = (keysOf f (t.drop (p + 1 + n + 1 + k))).map fun l => ((t.drop (p + 1)).take n, (t.drop (p + 1 + n + 1)).take k) :: l := by
  rw [drop_c h, keysOf, List.drop_drop, drop_c hk];have hl := (List.getElem?_eq_some_iff.mp hk).1;simp only [];rw [if_neg, List.drop_drop];rw [List.length_drop, List.length_drop];omega
theorem keys_in : ∀ (f : Nat) (b : List Nat) (rs : List (List Nat × List Nat)), keysOf f b = some rs -> ∀ r ∈ rs, r.2.length <= 64 /\ ∀ x ∈ r.2, x ∈ b
  | 0, b, rs, h => by rw [keysOf] at h; cases h
  | f + 1, [], rs, h => by
    rw [keysOf] at h;cases h;intro r hr;cases hr
  | f + 1, n :: r, rs, h => by
    rw [keysOf] at h;cases hd : r.drop n with
    | nil => rw [hd] at h; cases h
    | cons k t =>
      rw [hd] at h;simp only [] at h;by_cases c : r.length < n \/ k < 1 \/ 64 < k \/ t.length < k
      · rw [if_pos c] at h; cases h
      · rw [if_neg c] at h;cases hk : keysOf f (t.drop k) with
        | none => rw [hk] at h; cases h
        | some l =>
          rw [hk] at h;have e := (Option.some.inj h).symm;have sub : ∀ x ∈ t, x ∈ n :: r := fun x hx => List.mem_cons_of_mem _ (List.mem_of_mem_drop (i := n) (by rw [hd]; exact List.mem_cons_of_mem _ hx))
          intro row hr;rw [e] at hr;rcases List.mem_cons.mp hr with z | z
          · rw [z];refine ⟨?_, fun x hx => sub x (List.mem_of_mem_take hx)⟩;show (t.take k).length <= 64;rw [List.length_take];omega
          · have := keys_in f _ l hk row z;exact ⟨this.1, fun x hx => sub x (List.mem_of_mem_drop (this.2 x hx))⟩
def cf (c : List (List Nat × List Nat × Json)) (now slack : Nat) (iss aud : Option (List Nat)) : Nat :=
  if ((named c (ascii "nbf")).bind fun y => wholeOf y.2).any (fun n => decide (now + slack < n)) = true then 6
  else if ((named c (ascii "exp")).bind fun y => wholeOf y.2).any (fun n => decide (n + slack <= now)) = true then 7
  else if iss.any (fun i => stringOf c "iss" != some i) = true then 8
  else if aud.any (fun a => !(((named c (ascii "aud")).bind fun y => strings y.2).getD []).contains a) = true then 9
  else 0
theorem checked_is (t : List Nat) (keys : List (List Nat × List Nat)) (now slack : Nat) (iss aud : Option (List Nat)) : checked t keys now slack iss aud = match tokenOf t with
  | none => 1
  | some x => match object x.header with
    | none => 2
    | some h => if headerOk h = false then 2 else match keys.lookup ((stringOf h "kid").getD []) with
      | none => 3
      | some k => if mac k x.signed ≠ x.signature then 4 else match object x.claims with
        | none => 5
        | some c => if claimsOk c = false then 5 else cf c now slack iss aud := rfl
end MG
namespace J
open PySem PySem.Spec PyProof.Rows L2 G Ex
def top (i : Nat) : Stmt := PySem.Challenge.pw_tokenpass_s06_tk_check.main.body.getD i (.Pass ⟨0, 0, 0, 0⟩)
def rf (a : Addr) (p c : Nat) : List (Str × V) := [("text", .ref a), ("place", .int (p : Int)), ("count", .int (c : Int))]
theorem rf_place (a : Addr) (p c q : Nat) : putF "place" (.int (q : Int)) (rf a p c) = rf a q c := by
  show (if ("text" : Str) = "place" then _ else (("text" : Str), V.ref a) :: (if ("place" : Str) = "place" then _ else _)) = _;rw [if_neg (by decide +kernel), if_pos rfl];rfl
theorem rf_count (a : Addr) (p c q : Nat) : putF "count" (.int (q : Int)) (rf a p c) = rf a p q := by
  show (if ("text" : Str) = "count" then _ else (("text" : Str), V.ref a) :: (if ("place" : Str) = "count" then _ else (("place" : Str), V.int (p : Int)) :: (if ("count" : Str) = "count" then _ else _))) = _;rw [if_neg (by decide +kernel), if_neg (by decide +kernel), if_pos rfl];rfl
def But (r : Addr) (H H' : Hp) : Prop := ∀ b o, H b = some o -> b ≠ r -> H' b = some o
theorem But.refl {r : Addr} {H : Hp} : But r H H := fun _ _ h _ => h
theorem But.trans {r : Addr} {H H1 H2 : Hp} (x : But r H H1) (y : But r H1 H2) : But r H H2 := fun b o h n => y b o (x b o h n) n
theorem But.upd {r : Addr} {H : Hp} {o : HO} : But r H (L2.upd H r o) := fun b u h n => by rw [y9 n]; exact h
structure Rat (K : PySem.W.Frag) (CR dx r a : Addr) (t : List Nat) (p c : Nat) (H : Hp) : Prop where
  at_ : H r = some (.ins CR dx (rf a p c))
  txt : SqL K H a (nv t)
  len : t.length <= 100000
  byt : ∀ x ∈ t, x < 256
theorem ne_ins {K : PySem.W.Frag} {H : Hp} {r a C dx : Addr} {fs : List (Str × V)} {xs : List V} (h : SqL K H a xs) (e : H r = some (.ins C dx fs)) : SqL K H a xs /\ ∀ H', But r H H' -> SqL K H' a xs := by
  refine ⟨h, fun H' s => ?_⟩;rcases h with (h | ⟨o, h⟩) | h
  · exact .inl (.inl (s _ _ h (fun z => by rw [z, e] at h; cases h)))
  · exact .inl (.inr ⟨o, s _ _ h (fun z => by rw [z, e] at h; cases h)⟩)
  · exact .inr h
theorem Rat.put {K : PySem.W.Frag} {CR dx r a : Addr} {t : List Nat} {p c q d : Nat} {H H' : Hp} (x : Rat K CR dx r a t p c H) (s : But r H H') (e : H' r = some (.ins CR dx (rf a q d))) : Rat K CR dx r a t q d H' :=
  ⟨e, (ne_ins x.txt x.at_).2 H' s, x.len, x.byt⟩
def nb (t : List Nat) (p : Nat) : Int := match t[p]? with
  | some b => (b : Int)
  | none => -1
theorem Z0 {t : List Nat} {p b : Nat} (h : t[p]? = some b) : nb t p = (b : Int) := by unfold nb; rw [h]
theorem nb_none {t : List Nat} {p : Nat} (h : t[p]? = none) : nb t p = -1 := by unfold nb; rw [h]
structure Txt (K : PySem.W.Frag) (mg : Str -> Option Value) (CR CN aB : Addr) : Prop where
  cl : Cls K CR
  nT : Y4 K CR "text"
  nP : Y4 K CR "place"
  nC : Y4 K CR "count"
  noB : ∃ t, mg "NO_BYTE" = some (.int (-1) t)
  bl : mg "BLANKS" = some (.ref aB)
  blv : ∀ H, SqT K H aB (nv [32, 9, 10, 13])
  quo : ∃ t, mg "QUOTE" = some (.int 34 t)
  bsl : ∃ t, mg "BACKSLASH" = some (.int 92 t)
  deep : ∃ t, mg "MOST_DEEP" = some (.int 16 t)
  nj : mg "NotJson" = some (.ref CN)
  exc : PySem.W.excIn K CN [.type "ValueError", .type "Exception", .type "BaseException", .type "object"] "ValueError.__new__" = true
  len : mg "len" = none
  ord : mg "ord" = none
  any : mg "any" = none
  tup : mg "tuple" = none
structure Callee (P : Program) (w : World) (K : PySem.W.Frag) (mg : Str -> Option Value) (base : Heap) (CX : CXT) (x : Str) (k : Nat) (ps : List Str) (sp : Sp) : Prop where
  ex : ∃ f fd, FnOk P w K mg base CX k f fd ps sp /\ PySem.W.keepIn K (.ref f) = true /\ Binds K fd ps [] /\ mg x = some (.ref f)
structure z9 (P : Program) (w : World) (K : PySem.W.Frag) (mg : Str -> Option Value) (base : Heap) (CX : CXT) (C : Addr) (m : Str) (k : Nat) (ps : List Str) (sp : Sp) : Prop where
  ex : ∃ f fd, FnOk P w K mg base CX k f fd ps sp /\ Meth K C m f /\ Binds K fd ps []
section
variable {X : Cx}
theorem x8 {x : Str} {i : Int} {pos : Pos} (hg : Gl X x) (h : ∃ t, X.mg x = some (.int i t)) (hd : (x == ("__debug__" : Str)) = false := by decide) : PE X (.Name x pos) (tC (.int i)) := by
  obtain ⟨t, e⟩ := h;exact pe_glob hg e ⟨t, rfl⟩ hd
theorem j6 {CX : CXT} {x : Str} {k : Nat} {ps : List Str} {sp : Sp} {p pos : Pos} {e : Expr} {es : List Expr} {t : TA} {E : XK} (c : Callee X.prog X.w X.K X.mg X.base CX x k ps sp) (hx : Passes CX X E) (hr : Room k X.A) (hg : Gl X x) (ha : PA X (e :: es) t) (hdb : (x == ("__debug__" : Str)) = false := by decide)
    (he : starEach (e :: es) X.env = (false, eval e X.env) :: starEach es X.env := by rfl) (hpl : (backTo pos (starEach es X.env)).any (·.1) = false := by rfl) : PE X (.Call (.Name x p) (e :: es) [] pos) (tCall sp [] E t) := by
  obtain ⟨f, fd, F, kp, b, m⟩ := c.ex;exact pe_call F hr hg m kp b .nil hx ha hdb he hpl
theorem pm {CX : CXT} {C : Addr} {m : Str} {k : Nat} {ps : List Str} {sp : Sp} {apos pos : Pos} {o e : Expr} {es : List Expr} {ta : TE} {t : TA} {E : XK} {pl : Sem Bool} (c : z9 X.prog X.w X.K X.mg X.base CX C m k ps sp) (hx : Passes CX X E) (cl : Cls X.K C) (hr : Room k X.A) (he : PE X o ta) (ha : PA X (e :: es) t)
    (hst : starEach (e :: es) X.env = (false, eval e X.env) :: starEach es X.env := by rfl) (hpl : (backTo pos (starEach es X.env)).any (·.1) = false := by rfl)
    (ht : eval (.Call (.Attribute o m apos) (e :: es) [] pos) X.env = (do
      let ov <- eval o X.env
      standAt apos.atName
      let (f, first) <- holding [ov] (getMethod ov m pl)
      callWith pos f first (backTo pos (starEach (e :: es) X.env)) (backToKw pos (keywordEach [] X.env))) := by rfl) :
    PE X (.Call (.Attribute o m apos) (e :: es) [] pos) (tMeth C m sp [] E ta t) := by
  obtain ⟨f, fd, F, hm, b⟩ := c.ex;exact pe_meth he cl hm F hr b .nil hx ha hst hpl ht
theorem pm0 {CX : CXT} {C : Addr} {m : Str} {k : Nat} {ps : List Str} {sp : Sp} {apos pos : Pos} {o : Expr} {ta : TE} {E : XK} {pl : Sem Bool} (c : z9 X.prog X.w X.K X.mg X.base CX C m k ps sp) (hx : Passes CX X E) (cl : Cls X.K C) (hr : Room k X.A) (he : PE X o ta)
    (ht : eval (.Call (.Attribute o m apos) [] [] pos) X.env = (do
      let ov <- eval o X.env
      standAt apos.atName
      let (f, first) <- holding [ov] (getMethod ov m pl)
      callWith pos f first (backTo pos (starEach [] X.env)) (backToKw pos (keywordEach [] X.env))) := by rfl) :
    PE X (.Call (.Attribute o m apos) [] [] pos) (tMeth C m sp [] E ta tNil) := by
  obtain ⟨f, fd, F, hm, b⟩ := c.ex;exact pe_meth0 he cl hm F hr b .nil hx ht
theorem Z8 {e : Expr} {p pos : Pos} {te : TE} (hg : Gl X "len") (hm : X.mg "len" = none) (h : PE X e te) (hs : starEach [e] X.env = (false, eval e X.env) :: starEach [] X.env := by rfl) :
    PE X (.Call (.Name "len" p) [e] [] pos) (tCB (fun xs H Q => ∃ p ys, xs = [.ref p] /\ (SqL X.K H p ys \/ SqT X.K H p ys) /\ Q (.int ys.length) H) (Q0 te tNil)) :=
  pe_callB call_len_seq hg hm PySem.boot_len (w6 h w9 hs) (by decide) (by decide) hs rfl
theorem v7 {x : Str} {j : Nat} {p pos cp : Pos} {i : Int} (hg : Gl X "ord") (hm : X.mg "ord" = none) (h1 : x.length = 1) (h2 : ((x.cps.getD 0 0 : Nat) : Int) = i) : PE X (.Call (.Name "ord" p) [.Constant (.str x) j cp] [] pos) (tC (.int i)) := by
  intro pins s σ H Q I h;exact pe_callB call_ord hg hm PyProof.Rows.boot_ord (w6 W5 w9 rfl) (by decide) (by decide) rfl rfl pins s σ H Q I ⟨x, rfl, h1, by rw [h2]; exact h⟩
end
section
variable (K : PySem.W.Frag) (CR CN : Addr)
def spNext : Sp := fun vs H Q _ => ∃ dx r a t p c, vs = [.ref r] /\ Rat K CR dx r a t p c H /\ Q (.int (nb t p)) H
def Y0 : Sp := fun vs H Q _ => ∃ dx r a t p c, ∃ z : Int, vs = [.ref r, .int z] /\ 0 <= z /\ Rat K CR dx r a t p c H /\ (nb t p = z -> ∀ H', But r H H' -> Rat K CR dx r a t (p + 1) c H' -> Q (.bl true) H') /\ (¬ nb t p = z -> Q (.bl false) H)
def spTake : Sp := fun vs H Q E => ∃ dx r a t p c, ∃ z : Int, vs = [.ref r, .int z] /\ 0 <= z /\ Rat K CR dx r a t p c H /\ (nb t p = z -> ∀ H', But r H H' -> Rat K CR dx r a t (p + 1) c H' -> Q .non H') /\ (¬ nb t p = z -> ∀ H', E (.ref CN) none H')
def sk (t : List Nat) (p : Nat) : Nat := p + ((t.drop p).takeWhile Sv20.blank).length
def spSkip : Sp := fun vs H Q _ => ∃ dx r a t p c, vs = [.ref r] /\ Rat K CR dx r a t p c H /\ ∀ H', But r H H' -> Rat K CR dx r a t (sk t p) c H' -> Q .non H'
end
def spIsDigit : Sp := fun vs H Q _ => ∃ z : Int, vs = [.int z] /\ Q (.bl (decide (48 <= z /\ z <= 57))) H
section
variable {P : Program} {w : World} {K : PySem.W.Frag} {mg : Str -> Option Value} {base : Heap} {CR CN aB : Addr}
theorem sc1 : z7 ["self"] ["self"] (y3 (inClass (top 24) 1)) := ⟨rfl, rfl, rfl, by decide +kernel, rfl, by decide +kernel, by decide +kernel⟩
theorem ok_next {f : Addr} {fd : FuncData} (F : Fun K "next_byte" "Reader.next_byte" (inClass (top 24) 1) f fd) (T : Txt K mg CR CN aB) : FnOk P w K mg base CX0 1 f fd ["self"] (spNext K CR) := by
  refine F.ok sc1 (fun vs H Q E h => ?_) (fun cdv A outer s H vs Q E hr h => ?_)
  · obtain ⟨dx, r, a, t, p, c, rfl, _⟩ := h;rfl
  · obtain ⟨dx, r, a, t, p, c, rfl, R, q⟩ := h
    refine ⟨_, w4 (j7 (j8 op_lt (k7 (pv 0) rfl) (Z8 rfl T.len (k7 (pv 0) rfl)) (j9 _)) (w8 (y6 (Q8 v8 (k7 (pv 0) rfl) (k7 (pv 0) rfl) (fun _ _ => rfl)))) z0)
      (w8 (y6 (x8 rfl T.noB))), ?_⟩
    refine ⟨_, rfl, r, CR, dx, _, _, rfl, R.at_, T.cl, T.nP, rfl, _, rfl, r, CR, dx, _, _, rfl, R.at_, T.cl, T.nT, rfl, a, _, rfl, .inl R.txt, _, _, rfl, rfl, _, rfl, ?_⟩;refine ite2 (fun e => ?_) (fun e => ?_)
    · have e' : (p : Int) < ((nv t).length : Nat) := of_decide_eq_true e;rw [j5] at e';have hp : p < t.length := by omega
      have ht : t[p]? = some t[p] := List.getElem?_eq_getElem hp;refine ⟨_, rfl, r, CR, dx, _, _, rfl, R.at_, T.cl, T.nT, rfl, _, rfl, r, CR, dx, _, _, rfl, R.at_, T.cl, T.nP, rfl, a, _, _, _, rfl, rfl, R.txt, at_of (j := p) rfl (nv_get ht), ?_⟩;rw [Z0 ht] at q;exact q
    · have e' : ¬ (p : Int) < ((nv t).length : Nat) := fun z => e (decide_eq_true z)
      rw [j5] at e';rw [nb_none (List.getElem?_eq_none_iff.mpr (by omega))] at q;exact q
theorem sc2 : z7 ["self", "byte"] ["self", "byte"] (y3 (inClass (top 24) 2)) := ⟨rfl, rfl, rfl, by decide +kernel, rfl, by decide +kernel, by decide +kernel⟩
theorem ok_passes {f : Addr} {fd : FuncData} (F : Fun K "passes" "Reader.passes" (inClass (top 24) 2) f fd) (T : Txt K mg CR CN aB) (C1 : z9 P w K mg base CX0 CR "next_byte" 1 ["self"] (spNext K CR)) : FnOk P w K mg base CX0 2 f fd ["self", "byte"] (Y0 K CR) := by
  refine F.ok sc2 (fun vs H Q E h => ?_) (fun cdv A outer s H vs Q E hr h => ?_)
  · obtain ⟨dx, r, a, t, p, c, z, rfl, _⟩ := h;rfl
  · obtain ⟨dx, r, a, t, p, c, z, rfl, hz, R, q1, q2⟩ := h
    refine ⟨_, w4 (j7 (j8 op_ne (pm0 C1 j0 T.cl hr (pv 0)) (pv 1) (j9 _)) (w8 (y6 pe_bl)) z0)
      (w4 (Y2 (pv 0) (y8 Q2 (k7 (pv 0) rfl) y2) rfl) (w8 (y6 pe_bl))), ?_⟩
    refine ⟨_, rfl, r, dx, _, rfl, R.at_, rfl, dx, r, a, t, p, c, rfl, R, _, rfl, rfl, _, rfl, ?_⟩;refine ite2 (fun e => ?_) (fun e => ?_)
    · have e' : ¬ nb t p = z := fun y => by
        rw [y] at e;simp at e
      exact q2 e'
    · have e' : nb t p = z := by
        by_cases y : nb t p = z
        · exact y
        · exact absurd (by simpa using fun y' => y y') e
      refine ⟨_, rfl, r, CR, dx, _, _, rfl, R.at_, T.cl, T.nP, rfl, p, 1, rfl, rfl, _, rfl, r, CR, dx, _, rfl, R.at_, T.cl, T.nP, (by show 3 < 1000; decide), ?_⟩;rw [rf_place];exact q1 e' _ But.upd (R.put But.upd y1)
theorem sc3 : z7 ["self", "byte"] ["self", "byte"] (y3 (inClass (top 24) 3)) := ⟨rfl, rfl, rfl, by decide +kernel, rfl, by decide +kernel, by decide +kernel⟩
theorem ok_take {f : Addr} {fd : FuncData} (F : Fun K "take" "Reader.take" (inClass (top 24) 3) f fd) (T : Txt K mg CR CN aB) (C2 : z9 P w K mg base CX0 CR "passes" 2 ["self", "byte"] (Y0 K CR)) : FnOk P w K mg base (CXn P w CN) 3 f fd ["self", "byte"] (spTake K CR CN) := by
  refine okx F sc3 (fun vs H Q E h => ?_) (fun cdv A outer s H vs Q E hr h => ?_)
  · obtain ⟨dx, r, a, t, p, c, z, rfl, _⟩ := h;rfl
  · obtain ⟨dx, r, a, t, p, c, z, rfl, hz, R, q1, q2⟩ := h;refine ⟨_, w8 (j7 (Q9 (x5 (pm C2 j0 T.cl hr (pv 0) (w6 (pv 1) w9)))) (w8 (Y6 rfl rfl T.nj T.exc PySem.F.excBase_ValueError throws)) z0), ?_⟩;refine ⟨_, rfl, r, dx, _, rfl, R.at_, rfl, _, rfl, dx, r, a, t, p, c, z, rfl, hz, R, fun e H' b R' => ?_, fun e => ?_⟩
    · exact ⟨_, rfl, iteF (q1 e H' b R')⟩
    · exact ⟨_, rfl, iteT (q2 e H)⟩
end
end J
namespace J
open PySem PySem.Spec PyProof.Rows L2 G Ex
theorem drop_cons {t : List Nat} {p b : Nat} (h : t[p]? = some b) : t.drop p = b :: t.drop (p + 1) := by
  obtain ⟨hj, e⟩ := List.getElem?_eq_some_iff.mp h;rw [List.drop_eq_getElem_cons hj, e]
theorem drop_nil {t : List Nat} {p : Nat} (h : t[p]? = none) : t.drop p = [] := List.drop_eq_nil_of_le (List.getElem?_eq_none_iff.mp h)
def run (q : Nat -> Bool) (t : List Nat) (p : Nat) : Nat := p + ((t.drop p).takeWhile q).length
theorem run_step {q : Nat -> Bool} {t : List Nat} {p b : Nat} (h : t[p]? = some b) (hq : q b = true) : run q t (p + 1) = run q t p := by
  unfold run;rw [drop_cons h, List.takeWhile_cons, if_pos hq, List.length_cons];omega
theorem run_stop {q : Nat -> Bool} {t : List Nat} {p b : Nat} (h : t[p]? = some b) (hq : q b = false) : run q t p = p := by
  unfold run;rw [drop_cons h, List.takeWhile_cons, if_neg (by rw [hq]; decide)];rfl
theorem run_end {q : Nat -> Bool} {t : List Nat} {p : Nat} (h : t[p]? = none) : run q t p = p := by
  unfold run;rw [drop_nil h];rfl
theorem dropWhile_run (q : Nat -> Bool) : ∀ (b : List Nat), b.drop (b.takeWhile q).length = b.dropWhile q
  | [] => rfl
  | x :: b => by
    by_cases h : q x = true
    · rw [List.takeWhile_cons, if_pos h, List.dropWhile_cons, if_pos h, List.length_cons, List.drop_succ_cons];exact dropWhile_run q b
    · rw [List.takeWhile_cons, if_neg h, List.dropWhile_cons, if_neg h];rfl
theorem drop_run (q : Nat -> Bool) (t : List Nat) (p : Nat) : t.drop (run q t p) = (t.drop p).dropWhile q := by
  unfold run;rw [<- List.drop_drop, dropWhile_run]
theorem blank_in {t : List Nat} {p b : Nat} (h : t[p]? = some b) : inV (.int (nb t p)) (nv [32, 9, 10, 13]) = Sv20.blank b := by
  rw [Z0 h, Bool.eq_iff_iff];simp [inV, nv, eqV, Sv20.blank];omega
def isd (z : Int) : Bool := decide (48 <= z /\ z <= 57)
theorem J0 {t : List Nat} {p b : Nat} (h : t[p]? = some b) : isd (nb t p) = Sv20.digit b := by
  rw [Z0 h, Bool.eq_iff_iff];simp [isd, Sv20.digit];omega
theorem isd_none {t : List Nat} {p : Nat} (h : t[p]? = none) : isd (nb t p) = false := by rw [nb_none h]; rfl
def hx (z : Int) : Int := if 48 <= z /\ z <= 57 then z - 48 else if 65 <= z /\ z <= 70 then z - 65 + 10 else if 97 <= z /\ z <= 102 then z - 97 + 10 else -1
theorem hx_of (b : Nat) : Sv20.hexOf b = if hx (b : Int) < 0 then none else some (hx (b : Int)).toNat := by
  unfold Sv20.hexOf;by_cases h1 : 48 <= b /\ b <= 57
  · have e : hx (b : Int) = (b : Int) - 48 := by unfold hx; rw [if_pos (by omega)]
    rw [if_pos (by simp [Sv20.digit]; omega), e, if_neg (by omega)]; congr 1; omega
  · rw [if_neg (by simp [Sv20.digit]; omega)];by_cases h2 : 65 <= b /\ b <= 70
    · have e : hx (b : Int) = (b : Int) - 65 + 10 := by unfold hx; rw [if_neg (by omega), if_pos (by omega)]
      rw [if_pos h2, e, if_neg (by omega)]; congr 1; omega
    · rw [if_neg h2];by_cases h3 : 97 <= b /\ b <= 102
      · have e : hx (b : Int) = (b : Int) - 97 + 10 := by unfold hx; rw [if_neg (by omega), if_neg (by omega), if_pos (by omega)]
        rw [if_pos h3, e, if_neg (by omega)]; congr 1; omega
      · have e : hx (b : Int) = -1 := by unfold hx; rw [if_neg (by omega), if_neg (by omega), if_neg (by omega)]
        rw [if_neg h3, e, if_pos (by omega)]
theorem hx_lt (z : Int) : hx z < 16 := by
  unfold hx
  repeat' split
  all_goals omega
def val16 (l : List Nat) : Nat := l.foldl (fun n d => 16 * n + d) 0
theorem val16_snoc (l : List Nat) (d : Nat) : val16 (l ++ [d]) = 16 * val16 l + d := by
  unfold val16;rw [List.foldl_append]; rfl
theorem mapM_snoc (l ds : List Nat) (b d : Nat) (h : l.mapM Sv20.hexOf = some ds) (e : Sv20.hexOf b = some d) : (l ++ [b]).mapM Sv20.hexOf = some (ds ++ [d]) := by
  rw [List.mapM_append, h];show (do let r <- [b].mapM Sv20.hexOf; pure (ds ++ r)) = _;rw [List.mapM_cons, e];rfl
theorem take_snoc {t : List Nat} {p i b : Nat} (h : t[p + i]? = some b) : (t.drop p).take (i + 1) = (t.drop p).take i ++ [b] := by
  rw [List.take_add_one, List.getElem?_drop, h]; rfl
theorem hex4_no {t : List Nat} {p i : Nat} (hi : i < 4) (h : t[p + i]? = none) : Sv20.hex4 (t.drop p) = none := by
  unfold Sv20.hex4;rw [if_pos];rw [List.length_drop];have := List.getElem?_eq_none_iff.mp h;omega
theorem mapM_bad : ∀ (l : List Nat) (b : Nat) (r : List Nat), Sv20.hexOf b = none -> (l ++ b :: r).mapM Sv20.hexOf = none
  | [], b, r, h => by rw [List.nil_append, List.mapM_cons, h]; rfl
  | a :: l, b, r, h => by
    rw [List.cons_append, List.mapM_cons, mapM_bad l b r h];cases Sv20.hexOf a <;> rfl
theorem hex4_bad {t : List Nat} {p i b : Nat} (hi : i < 4) (h : t[p + i]? = some b) (e : Sv20.hexOf b = none) : Sv20.hex4 (t.drop p) = none := by
  unfold Sv20.hex4
  split
  · rfl
  · have q : (t.drop p).take 4 = (t.drop p).take i ++ b :: ((t.drop p).drop (i + 1)).take (4 - (i + 1)) := by
      have e1 := take_snoc h
      have e2 : (t.drop p).take 4 = (t.drop p).take (i + 1) ++ ((t.drop p).drop (i + 1)).take (4 - (i + 1)) := by
        rw [show (4 : Nat) = (i + 1) + (4 - (i + 1)) by omega, List.take_add]
        congr 2
        omega
      rw [e2, e1, List.append_assoc];rfl
    rw [q, mapM_bad _ _ _ e];rfl
theorem hex4_ok {t ds : List Nat} {p : Nat} (hl : ds.length = 4) (hn : 4 <= (t.drop p).length) (h : ((t.drop p).take 4).mapM Sv20.hexOf = some ds) : Sv20.hex4 (t.drop p) = some (val16 ds) := by
  unfold Sv20.hex4;rw [if_neg (by omega), h];rfl
def code (t : List Nat) (p : Nat) : Option (Nat × Nat) := (Sv20.hex4 (t.drop p)).bind fun c =>
  if ¬ (0xD800 <= c /\ c <= 0xDFFF) then some (c, p + 4)
  else if t[p + 4]? = some 92 /\ t[p + 5]? = some 117 then (Sv20.hex4 (t.drop (p + 6))).bind fun d => if c <= 0xDBFF /\ 0xDC00 <= d /\ d <= 0xDFFF then some (0x10000 + (c - 0xD800) * 1024 + (d - 0xDC00), p + 10) else none
  else none
theorem lor_hi (k a x : Nat) (h : x < 2 ^ k) : Nat.lor (2 ^ k * a) x = 2 ^ k * a + x := (Nat.two_pow_add_eq_or_of_lt h a).symm
theorem for_str {x : Str} {g : TG} {tb : TS} {D : Ends} {σ : L2.St} {H : Hp} (Pv : Nat -> L2.St -> Hp -> Prop) (h0 : Pv 0 σ H)
    (hs : ∀ i c σ H, x.cps[i]? = some c -> Pv i σ H -> g (.str ⟨#[c]⟩) σ H fun σ2 H2 => tb { D with nx := Pv (i + 1), ct := Pv (i + 1), bk := D.nx } σ2 H2) (hd : ∀ σ H, Pv x.cps.size σ H -> D.nx σ H) :
    ∃ W : Nat -> Nat -> L2.St -> Hp -> Prop, (∃ m, W 0 m σ H) /\ ∀ i m σ H, W i m σ H ->
      ((Its x).stop i H /\ D.nx σ H) \/ ((Its x).go i H /\ ∃ N : L2.St -> Hp -> Prop, (∀ σ' H', N σ' H' -> ∃ m', m' < m /\ W (i + 1) m' σ' H') /\ ∀ x' H', (Its x).yld i H x' H' -> g x' σ H' fun σ2 H2 => tb { D with nx := N, ct := N, bk := D.nx } σ2 H2) := by
  refine ⟨fun i m σ H => m = x.cps.size - i /\ i <= x.cps.size /\ Pv i σ H, ⟨x.cps.size, by simp, Nat.zero_le _, h0⟩, ?_⟩;rintro i m σ H ⟨rfl, hi, p⟩;by_cases hlt : i < x.cps.size
  · refine .inr ⟨hlt, Pv (i + 1), fun σ' H' p' => ⟨x.cps.size - (i + 1), by omega, rfl, hlt, p'⟩, fun x' H' y => ?_⟩;obtain ⟨e, c, hc, e2⟩ := y;subst e e2;exact hs i c σ _ hc p
  · have e : i = x.cps.size := by omega
    subst e;exact .inl ⟨Nat.le_refl _, hd σ H p⟩
def Gives (H : Hp) (Q : VK) (l : List Nat) : Prop := ∀ (p : Addr) (H' : Hp), Same H H' -> H p = none -> H' p = some (.lst (nv l)) -> Q (.ref p) H'
def spHex : Sp := fun vs H Q _ => ∃ z : Int, vs = [.int z] /\ Q (.int (hx z)) H
def spUtf8 : Sp := fun vs H Q _ => ∃ c : Nat, vs = [.int (c : Int)] /\ c < 1114112 /\ Gives H Q (Sv20.utf8 c)
section
variable (K : PySem.W.Frag) (CR CN : Addr)
def spDigits : Sp := fun vs H Q E => ∃ dx r a t p c, vs = [.ref r] /\ Rat K CR dx r a t p c H /\ (isd (nb t p) = true -> ∀ H', But r H H' -> Rat K CR dx r a t (run Sv20.digit t p) c H' -> Q .non H') /\ (isd (nb t p) = false -> ∀ H', E (.ref CN) none H')
def spWord : Sp := fun vs H Q E => ∃ dx r a t p c, ∃ x : Str, vs = [.ref r, .str x] /\ Rat K CR dx r a t p c H /\ ((t.drop p).take x.cps.size = x.cps.toList -> ∀ H', But r H H' -> Rat K CR dx r a t (p + x.cps.size) c H' -> Q .non H') /\ (¬ (t.drop p).take x.cps.size = x.cps.toList -> ∀ H', E (.ref CN) none H')
def spFour : Sp := fun vs H Q E => ∃ dx r a t p c, vs = [.ref r] /\ Rat K CR dx r a t p c H /\ (∀ n, Sv20.hex4 (t.drop p) = some n -> ∀ H', But r H H' -> Rat K CR dx r a t (p + 4) c H' -> Q (.int (n : Int)) H') /\ (Sv20.hex4 (t.drop p) = none -> ∀ H', E (.ref CN) none H')
def spCode : Sp := fun vs H Q E => ∃ dx r a t p c, vs = [.ref r] /\ Rat K CR dx r a t p c H /\ (∀ n p', code t p = some (n, p') -> ∀ H', But r H H' -> Rat K CR dx r a t p' c H' -> Q (.int (n : Int)) H') /\ (code t p = none -> ∀ H', E (.ref CN) none H')
end
section
variable {P : Program} {w : World} {K : PySem.W.Frag} {mg : Str -> Option Value} {base : Heap} {CR CN aB : Addr}
theorem sc4 : z7 ["self"] ["self"] (y3 (inClass (top 24) 4)) := ⟨rfl, rfl, rfl, by decide +kernel, rfl, by decide +kernel, by decide +kernel⟩
theorem ok_skip {f : Addr} {fd : FuncData} (F : Fun K "skip_blanks" "Reader.skip_blanks" (inClass (top 24) 4) f fd) (T : Txt K mg CR CN aB) (C1 : z9 P w K mg base CX0 CR "next_byte" 1 ["self"] (spNext K CR)) : FnOk P w K mg base CX0 2 f fd ["self"] (spSkip K CR) := by
  refine F.ok sc4 (fun vs H Q E h => ?_) (fun cdv A outer s H vs Q E hr h => ?_)
  · obtain ⟨dx, r, a, t, p, c, rfl, _⟩ := h;rfl
  · obtain ⟨dx, r, a, t, p, c, rfl, R, q⟩ := h;refine ⟨_, w8 (ps_while PassesOwn.never (j8 op_in_seq (pm0 C1 j0 T.cl hr (pv 0)) (pe_glob (v := .ref aB) rfl T.bl rfl) (by with_unfolding_all rfl)) (w8 (Y2 (pv 0) (y8 Q2 (k7 (pv 0) rfl) y2) rfl))), ?_⟩;refine ⟨fun m σ H' => ∃ p', σ = [some (.ref r)] /\ But r H H' /\ Rat K CR dx r a t p' c H' /\ run Sv20.blank t p' = run Sv20.blank t p /\ m = t.length - p', ⟨_, p, rfl, But.refl, R, rfl, rfl⟩, ?_⟩;rintro m σ H1 ⟨p', rfl, b1, R1, e1, rfl⟩;refine ⟨_, rfl, r, dx, _, rfl, R1.at_, rfl, dx, r, a, t, p', c, rfl, R1, aB, _, rfl, .inr (T.blv _), rfl, rfl, _, rfl, ?_⟩;show if inV (.int (nb t p')) (nv [32, 9, 10, 13]) = true then _ else _
    cases hb : t[p']? with
    | none =>
      rw [nb_none hb, if_neg (by decide)];rw [run_end hb] at e1;exact q H1 b1 (by show Rat K CR dx r a t (run Sv20.blank t p) c H1; rw [<- e1]; exact R1)
    | some b =>
      rw [blank_in hb];have hp := (List.getElem?_eq_some_iff.mp hb).1;by_cases hq : Sv20.blank b = true
      · rw [if_pos hq];refine ⟨fun σ' H' => ∃ p2, σ' = [some (.ref r)] /\ But r H H' /\ Rat K CR dx r a t p2 c H' /\ run Sv20.blank t p2 = run Sv20.blank t p /\ p2 = p' + 1, fun σ' H' ⟨p2, h1, h2, h3, h4, h5⟩ => ⟨t.length - p2, by omega, p2, h1, h2, h3, h4, rfl⟩, ?_⟩;refine ⟨_, rfl, r, CR, dx, _, _, rfl, R1.at_, T.cl, T.nP, rfl, p', 1, rfl, rfl, _, rfl, r, CR, dx, _, rfl, R1.at_, T.cl, T.nP, (by show 3 < 1000; decide), ?_⟩;rw [rf_place];exact ⟨p' + 1, rfl, b1.trans But.upd, R1.put But.upd y1, by rw [run_step hb hq]; exact e1, rfl⟩
      · rw [if_neg hq];rw [run_stop hb (by simpa using hq)] at e1;exact q H1 b1 (by show Rat K CR dx r a t (run Sv20.blank t p) c H1; rw [<- e1]; exact R1)
theorem scD : z7 ["byte"] ["byte"] (y3 (top 21)) := ⟨rfl, rfl, rfl, by decide +kernel, rfl, by decide +kernel, by decide +kernel⟩
theorem ok_isdigit {f : Addr} {fd : FuncData} (F : Fun K "is_digit" "is_digit" (top 21) f fd) (T : Txt K mg CR CN aB) : FnOk P w K mg base CX0 1 f fd ["byte"] spIsDigit := by
  refine F.ok scD (fun vs H Q E h => ?_) (fun cdv A outer s H vs Q E hr h => ?_)
  · obtain ⟨z, rfl, _⟩ := h;rfl
  · obtain ⟨z, rfl, q⟩ := h;refine ⟨_, w8 (y6 (pe_chain W4 W4 (v7 (i := 48) rfl T.ord rfl rfl) (pv 0) (v7 (i := 57) rfl T.ord rfl rfl))), ?_⟩;refine ⟨_, rfl, 48, z, rfl, rfl, _, rfl, ?_⟩;refine ite2 (fun e => ?_) (fun e => ?_)
    · have e' : (48 : Int) <= z := of_decide_eq_true e;refine ⟨z, 57, rfl, rfl, ?_⟩;have : decide (48 <= z /\ z <= 57) = decide (z <= 57) := by by_cases y : z <= 57 <;> simp [y, e']
      rw [this] at q;exact q
    · have e' : ¬ (48 : Int) <= z := fun y => e (decide_eq_true y)
      have : decide (48 <= z /\ z <= 57) = false := decide_eq_false fun y => e' y.1
      rw [this] at q;exact q
theorem scX : z7 ["byte"] ["byte"] (y3 (top 22)) := ⟨rfl, rfl, rfl, by decide +kernel, rfl, by decide +kernel, by decide +kernel⟩
theorem ok_hex {f : Addr} {fd : FuncData} (F : Fun K "hex_of" "hex_of" (top 22) f fd) (T : Txt K mg CR CN aB) (CD : Callee P w K mg base CX0 "is_digit" 1 ["byte"] spIsDigit) : FnOk P w K mg base CX0 2 f fd ["byte"] spHex := by
  refine F.ok scX (fun vs H Q E h => ?_) (fun cdv A outer s H vs Q E hr h => ?_)
  · obtain ⟨z, rfl, _⟩ := h;rfl
  · obtain ⟨z, rfl, q⟩ := h
    refine ⟨_, w4 (j7 (x5 (j6 CD j0 hr rfl (w6 (pv 0) w9))) (w8 (y6 (y8 W7 (pv 0) (v7 (i := 48) rfl T.ord rfl rfl)))) z0)
      (w4 (j7 (Y5 W4 W4 (v7 (i := 65) rfl T.ord rfl rfl) (pv 0) (v7 (i := 70) rfl T.ord rfl rfl)) (w8 (y6 (y8 Z2 (y8 W7 (pv 0) (v7 (i := 65) rfl T.ord rfl rfl)) y2))) z0)
      (w4 (j7 (Y5 W4 W4 (v7 (i := 97) rfl T.ord rfl rfl) (pv 0) (v7 (i := 102) rfl T.ord rfl rfl)) (w8 (y6 (y8 Z2 (y8 W7 (pv 0) (v7 (i := 97) rfl T.ord rfl rfl)) y2))) z0)
      (w8 (y6 (pe_un un_neg y2))))), ?_⟩
    refine ⟨_, rfl, z, rfl, _, rfl, ?_⟩;refine ite2 (fun e => ?_) (fun e => ?_)
    · have e' := of_decide_eq_true e;refine ⟨_, rfl, z, 48, rfl, rfl, ?_⟩;unfold hx at q;rw [if_pos e'] at q;exact q
    · have e' : ¬ (48 <= z /\ z <= 57) := fun y => e (decide_eq_true y)
      have last : ¬ (65 <= z /\ z <= 70) -> (Q (.int (-1)) H -> Q (.int (-1)) H) := fun _ y => y
      have low : ¬ (65 <= z /\ z <= 70) -> tSeq (tIfS (tTest (tChain (rI0 fun i j => .bl (decide (i <= j))) (rI0 fun i j => .bl (decide (i <= j))) (tC (.int 97)) (tVar 0) (tC (.int 102)))) (tRet (tOp (rI0 fun i j => .int (i + j)) (tOp (rI0 fun i j => .int (i - j)) (tVar 0) (tC (.int 97))) (tC (.int 10)))) tNext) (tRet (tUn (rU fun i => .int (-i)) (tC (.int 1)))) { nx := fun _ H' => Q .non H', rt := Q } (start ["byte"] [.int z]) H := by
        intro n2;refine ⟨_, rfl, 97, z, rfl, rfl, _, rfl, ?_⟩;refine ite2 (fun e2 => ?_) (fun e2 => ?_)
        · have e2' : (97 : Int) <= z := of_decide_eq_true e2;refine ⟨z, 102, rfl, rfl, _, rfl, ?_⟩;refine ite2 (fun e3 => ?_) (fun e3 => ?_)
          · have e3' : z <= (102 : Int) := of_decide_eq_true e3;refine ⟨_, rfl, z, 97, rfl, rfl, _, _, rfl, rfl, ?_⟩;unfold hx at q;rw [if_neg e', if_neg n2, if_pos ⟨e2', e3'⟩] at q;exact q
          · have e3' : ¬ z <= (102 : Int) := fun y => e3 (decide_eq_true y)
            refine ⟨1, rfl, ?_⟩;unfold hx at q;rw [if_neg e', if_neg n2, if_neg (fun y => e3' y.2)] at q;exact q
        · have e2' : ¬ (97 : Int) <= z := fun y => e2 (decide_eq_true y)
          refine ⟨_, rfl, iteF ⟨1, rfl, ?_⟩⟩;unfold hx at q;rw [if_neg e', if_neg n2, if_neg (fun y => e2' y.1)] at q;exact q
      refine ⟨_, rfl, 65, z, rfl, rfl, _, rfl, ?_⟩;refine ite2 (fun e2 => ?_) (fun e2 => ?_)
      · have e2' : (65 : Int) <= z := of_decide_eq_true e2;refine ⟨z, 70, rfl, rfl, _, rfl, ?_⟩;refine ite2 (fun e3 => ?_) (fun e3 => ?_)
        · have e3' : z <= (70 : Int) := of_decide_eq_true e3;refine ⟨_, rfl, z, 65, rfl, rfl, _, _, rfl, rfl, ?_⟩;unfold hx at q;rw [if_neg e', if_pos ⟨e2', e3'⟩] at q;exact q
        · have e3' : ¬ z <= (70 : Int) := fun y => e3 (decide_eq_true y)
          exact low fun y => e3' y.2
      · have e2' : ¬ (65 : Int) <= z := fun y => e2 (decide_eq_true y)
        exact ⟨_, rfl, iteF (low fun y => e2' y.1)⟩
end
end J
namespace J
open PySem PySem.Spec PyProof.Rows L2 G Ex
def rV (C : Int -> Int -> Prop) (g : Int -> Int -> V) : R2 := fun x y H Q => ∃ i j, x = .int i /\ y = .int j /\ C i j /\ ∃ v, g i j = v /\ Q v H
def rV0 (g : Int -> Int -> V) : R2 := fun x y H Q => ∃ i j, x = .int i /\ y = .int j /\ ∃ v, g i j = v /\ Q v H
theorem op_val {X : Cx} {f : Value -> Value -> Sem Value} {C : Int -> Int -> Prop} {g : Int -> Int -> V} (h : OpR X f (rI C g)) : OpR X f (rV C g) := op_imp h fun x y H Q ⟨i, j, e1, e2, c, v, e, q⟩ => ⟨i, j, e1, e2, c, by rw [e]; exact q⟩
theorem op_val0 {X : Cx} {f : Value -> Value -> Sem Value} {g : Int -> Int -> V} (h : OpR X f (rI0 g)) : OpR X f (rV0 g) := op_imp h fun x y H Q ⟨i, j, e1, e2, v, e, q⟩ => ⟨i, j, e1, e2, by rw [e]; exact q⟩
theorem Same.but {H H' : Hp} {r : Addr} (s : Same H H') : But r H H' := fun b o h _ => s b o h
def wt : Nat -> Nat
  | 0 => 65536
  | 1 => 4096
  | 2 => 256
  | 3 => 16
  | _ => 1
theorem wt_step {i v d : Nat} {x : V} (hi : i < 4) (hx : (nv [4096, 256, 16, 1])[i]? = some x) : ∃ n : Nat, x = .int (n : Int) /\ n < 5000 /\ v * wt i + d * n = (16 * v + d) * wt (i + 1) := by
  have hc : i = 0 \/ i = 1 \/ i = 2 \/ i = 3 := by omega
  rcases hc with rfl | rfl | rfl | rfl
  · exact ⟨4096, (Option.some.inj hx).symm, by decide, by show v * 65536 + d * 4096 = (16 * v + d) * 4096; omega⟩
  · exact ⟨256, (Option.some.inj hx).symm, by decide, by show v * 4096 + d * 256 = (16 * v + d) * 256; omega⟩
  · exact ⟨16, (Option.some.inj hx).symm, by decide, by show v * 256 + d * 16 = (16 * v + d) * 16; omega⟩
  · exact ⟨1, (Option.some.inj hx).symm, by decide, by show v * 16 + d * 1 = (16 * v + d) * 1; omega⟩
theorem code_some {t : List Nat} {p c : Nat} (h : Sv20.hex4 (t.drop p) = some c) : code t p = if ¬ (0xD800 <= c /\ c <= 0xDFFF) then some (c, p + 4)
  else if t[p + 4]? = some 92 /\ t[p + 5]? = some 117 then (Sv20.hex4 (t.drop (p + 6))).bind fun d => if c <= 0xDBFF /\ 0xDC00 <= d /\ d <= 0xDFFF then some (0x10000 + (c - 0xD800) * 1024 + (d - 0xDC00), p + 10) else none
  else none := by
  unfold code;rw [h]; rfl
theorem v9 {t : List Nat} {p z : Nat} : nb t p = (z : Int) ↔ t[p]? = some z := by
  cases h : t[p]? with
  | none => rw [nb_none h]; constructor <;> intro e <;> first | omega | cases e
  | some b =>
    rw [Z0 h];constructor
    · intro e; congr 1; omega
    · intro e; cases e; rfl
section
variable {P : Program} {w : World} {K : PySem.W.Frag} {mg : Str -> Option Value} {base : Heap} {CR CN aB : Addr}
theorem sc13 : z7 ["self"] ["self"] (y3 (inClass (top 24) 14)) := ⟨rfl, rfl, rfl, by decide +kernel, rfl, by decide +kernel, by decide +kernel⟩
theorem ok_digits {f : Addr} {fd : FuncData} (F : Fun K "read_digits" "Reader.read_digits" (inClass (top 24) 14) f fd) (T : Txt K mg CR CN aB) (C1 : z9 P w K mg base CX0 CR "next_byte" 1 ["self"] (spNext K CR)) (CD : Callee P w K mg base CX0 "is_digit" 1 ["byte"] spIsDigit) : FnOk P w K mg base (CXn P w CN) 2 f fd ["self"] (spDigits K CR CN) := by
  refine okx F sc13 (fun vs H Q E h => ?_) (fun cdv A outer s H vs Q E hr h => ?_)
  · obtain ⟨dx, r, a, t, p, c, rfl, _⟩ := h;rfl
  · obtain ⟨dx, r, a, t, p, c, rfl, R, q1, q2⟩ := h
    refine ⟨_, w4 (j7 (Q9 (x5 (j6 CD j0 hr rfl (w6 (pm0 C1 j0 T.cl hr (pv 0)) w9)))) (w8 (Y6 rfl rfl T.nj T.exc PySem.F.excBase_ValueError throws)) z0)
      (w8 (ps_while ownp (x5 (j6 CD j0 hr rfl (w6 (pm0 C1 j0 T.cl hr (pv 0)) w9))) (w8 (Y2 (pv 0) (y8 Q2 (k7 (pv 0) rfl) y2) rfl)))), ?_⟩
    refine ⟨_, rfl, r, dx, _, rfl, R.at_, rfl, dx, r, a, t, p, c, rfl, R, _, rfl, _, rfl, ?_⟩;show if (!isd (nb t p)) = true then _ else _
    cases hd : isd (nb t p) with
    | false => exact iteT (q2 hd H)
    | true =>
      refine iteF ?_;have q := q1 hd;refine ⟨fun m σ H' => ∃ p', σ = [some (.ref r)] /\ But r H H' /\ Rat K CR dx r a t p' c H' /\ run Sv20.digit t p' = run Sv20.digit t p /\ m = t.length - p', ⟨_, p, rfl, But.refl, R, rfl, rfl⟩, ?_⟩;rintro m σ H1 ⟨p', rfl, b1, R1, e1, rfl⟩;refine ⟨_, rfl, r, dx, _, rfl, R1.at_, rfl, dx, r, a, t, p', c, rfl, R1, _, rfl, _, rfl, ?_⟩;show if isd (nb t p') = true then _ else _
      cases hb : t[p']? with
      | none =>
        rw [isd_none hb, if_neg (by decide)];rw [run_end hb] at e1;exact q H1 b1 (by rw [<- e1]; exact R1)
      | some b =>
        rw [J0 hb];have hp := (List.getElem?_eq_some_iff.mp hb).1;by_cases hq : Sv20.digit b = true
        · rw [if_pos hq];refine ⟨fun σ' H' => ∃ p2, σ' = [some (.ref r)] /\ But r H H' /\ Rat K CR dx r a t p2 c H' /\ run Sv20.digit t p2 = run Sv20.digit t p /\ p2 = p' + 1, fun σ' H' ⟨p2, h1, h2, h3, h4, h5⟩ => ⟨t.length - p2, by omega, p2, h1, h2, h3, h4, rfl⟩, ?_⟩;refine ⟨_, rfl, r, CR, dx, _, _, rfl, R1.at_, T.cl, T.nP, rfl, p', 1, rfl, rfl, _, rfl, r, CR, dx, _, rfl, R1.at_, T.cl, T.nP, (by show 3 < 1000; decide), ?_⟩;rw [rf_place];exact ⟨p' + 1, rfl, b1.trans But.upd, R1.put But.upd y1, by rw [run_step hb hq]; exact e1, rfl⟩
        · rw [if_neg hq];rw [run_stop hb (by simpa using hq)] at e1;exact q H1 b1 (by rw [<- e1]; exact R1)
theorem sc11 : z7 ["self", "word", "letter"] ["self", "word"] (y3 (inClass (top 24) 12)) := ⟨rfl, rfl, rfl, by decide +kernel, rfl, by decide +kernel, by decide +kernel⟩
theorem ok_word {f : Addr} {fd : FuncData} (F : Fun K "read_word" "Reader.read_word" (inClass (top 24) 12) f fd) (T : Txt K mg CR CN aB) (C3 : z9 P w K mg base (CXn P w CN) CR "take" 3 ["self", "byte"] (spTake K CR CN)) : FnOk P w K mg base (CXn P w CN) 4 f fd ["self", "word"] (spWord K CR CN) := by
  refine okx F sc11 (fun vs H Q E h => ?_) (fun cdv A outer s H vs Q E hr h => ?_)
  · obtain ⟨dx, r, a, t, p, c, x, rfl, _⟩ := h;rfl
  · obtain ⟨dx, r, a, t, p, c, x, rfl, R, q1, q2⟩ := h;refine ⟨_, w8 (ps_for ownp rfl (pi_str (pv 1)) (k9 (i := 2) sc11.nd rfl (Or.inl rfl)) (w8 (k8 (pm C3 Q1 T.cl hr (pv 0) (w6 (pe_callB call_ord rfl T.ord PyProof.Rows.boot_ord (w6 (pv 2) w9)) w9))))), ?_⟩;refine ⟨_, rfl, x, rfl, for_str (fun i σ H' => ∃ v2 : Option V, σ = [some (.ref r), some (.str x), v2] /\ But r H H' /\ Rat K CR dx r a t (p + i) c H' /\ (t.drop p).take i = x.cps.toList.take i) ⟨none, rfl, But.refl, R, rfl⟩ ?_ ?_⟩
    · rintro i cc σ H' hc ⟨v2, rfl, b1, R1, e1⟩;have hi : i < x.cps.size := (Array.getElem?_eq_some_iff.mp hc).1;have hl : x.cps.toList[i]? = some cc := by rw [Array.getElem?_toList]; exact hc
      refine ⟨_, rfl, r, dx, _, rfl, R1.at_, rfl, _, rfl, ⟨#[cc]⟩, rfl, rfl, dx, r, a, t, p + i, c, (cc : Int), rfl, Int.natCast_nonneg _, R1, fun e H2 b2 R2 => ?_, fun e => ?_⟩
      · have e' := v9.mp e;refine ⟨_, rfl, b1.trans b2, R2, ?_⟩;rw [take_snoc e', e1, List.take_add_one, hl];rfl
      · refine q2 (fun z => e (v9.mpr ?_));have z2 := congrArg (fun l => l[i]?) z;rw [hl] at z2;rw [<- z2, List.getElem?_take_of_lt hi, List.getElem?_drop]
    · rintro σ H' ⟨v2, rfl, b1, R1, e1⟩;exact q1 (by rw [e1]; exact List.take_of_length_le (by simp)) H' b1 R1
theorem sc18 : z7 ["self", "number", "worth", "digit"] ["self"] (y3 (inClass (top 24) 19)) := ⟨rfl, rfl, rfl, by decide +kernel, rfl, by decide +kernel, by decide +kernel⟩
theorem ok_four {f : Addr} {fd : FuncData} (F : Fun K "read_four" "Reader.read_four" (inClass (top 24) 19) f fd) (T : Txt K mg CR CN aB) (C1 : z9 P w K mg base CX0 CR "next_byte" 1 ["self"] (spNext K CR)) (CH : Callee P w K mg base CX0 "hex_of" 2 ["byte"] spHex) : FnOk P w K mg base (CXn P w CN) 3 f fd ["self"] (spFour K CR CN) := by
  refine okx F sc18 (fun vs H Q E h => ?_) (fun cdv A outer s H vs Q E hr h => ?_)
  · obtain ⟨dx, r, a, t, p, c, rfl, _⟩ := h;rfl
  · obtain ⟨dx, r, a, t, p, c, rfl, R, q1, q2⟩ := h;have hr1 : Room 1 _ := hr.mono (by decide)
    refine ⟨_, w4 (z6 (i := 1) sc18.nd rfl (Or.inl rfl) y2)
      (w4 (ps_for ownp rfl (pi_tup (pe_tup (w6 y2 (w6 y2 (w6 y2 (w6 y2 w9)))))) (k9 (i := 2) sc18.nd rfl (Or.inl rfl))
        (w4 (z6 (i := 3) sc18.nd rfl (Or.inl rfl) (j6 CH j0 hr rfl (w6 (pm0 C1 j0 T.cl hr1 (pv 0)) w9)))
        (w4 (j7 (j8 op_lt (pv 3) y2 (j9 _)) (w8 (Y6 rfl rfl T.nj T.exc PySem.F.excBase_ValueError throws)) z0)
        (w4 (z6 (i := 1) sc18.nd rfl (Or.inl rfl) (y8 (op_val0 Z2) (pv 1) (y8 op_mul (pv 3) (pv 2))))
        (w8 (Y2 (pv 0) (y8 Q2 (k7 (pv 0) rfl) y2) rfl))))))
      (w8 (y6 (pv 1)))), ?_⟩
    refine ⟨(by show 4 <= sizeLine; decide), fun tp htp => ?_⟩;have ner : r ≠ tp := y4 R.at_ htp;have R0 : Rat K CR dx r a t p c (upd H tp (.tup (nv [4096, 256, 16, 1]))) := R.put (fun b o e _ => by rw [y9 (y4 e htp)]; exact e) (by rw [y9 ner]; exact R.at_);have k0 : (upd H tp (.tup (nv [4096, 256, 16, 1]))) tp = some (.tup (nv [4096, 256, 16, 1])) := y1;have b0 : But r H (upd H tp (.tup (nv [4096, 256, 16, 1]))) := fun b o e _ => by rw [y9 (y4 e htp)]; exact e
    show ∃ a, _;refine ⟨tp, rfl, ⟨_, SqT.of k0⟩, ?_⟩
    refine for_tup (K := K) (a := tp) (xs := nv [4096, 256, 16, 1]) (fun i σ H' => ∃ (v2 v3 : Option V) (ds : List Nat), σ = [some (.ref r), some (.int ((val16 ds * wt i : Nat) : Int)), v2, v3] /\ But r (upd H tp (.tup (nv [4096, 256, 16, 1]))) H' /\ Rat K CR dx r a t (p + i) c H' /\ ds.length = i /\ ((t.drop p).take i).mapM Sv20.hexOf = some ds /\ i <= (t.drop p).length)
      ⟨none, none, [], rfl, But.refl, R0, rfl, rfl, Nat.zero_le _⟩ (fun i σ H' _ ⟨_, _, _, _, b1, _⟩ => SqT.of (b1 _ _ k0 ner.symm)) ?_ ?_
    · rintro i x σ H' hx' ⟨v2, v3, ds, rfl, b1, R1, hl, hm, hn⟩;have hi : i < 4 := (List.getElem?_eq_some_iff.mp hx').1;refine ⟨_, rfl, r, dx, _, rfl, R1.at_, rfl, dx, r, a, t, p + i, c, rfl, R1, _, rfl, ?_⟩;refine ⟨_, rfl, _, 0, rfl, rfl, _, rfl, ?_⟩;refine ite2 (fun e => ?_) (fun e => ?_)
      · have e' : hx (nb t (p + i)) < 0 := of_decide_eq_true e;refine q2 ?_ _;cases hb : t[p + i]? with
        | none => exact hex4_no hi hb
        | some b =>
          refine hex4_bad hi hb ?_;rw [Z0 hb] at e';rw [hx_of, if_pos e']
      · have e' : ¬ hx (nb t (p + i)) < 0 := fun y => e (decide_eq_true y)
        cases hb : t[p + i]? with
        | none => rw [nb_none hb] at e'; exact absurd (by decide) e'
        | some b =>
          have hlt := hx_lt (nb t (p + i));have ed : Sv20.hexOf b = some (hx (nb t (p + i))).toNat := by rw [hx_of, Z0 hb, if_neg (by rw [Z0 hb] at e'; exact e')]
          obtain ⟨n, rfl, hn5, hw⟩ := wt_step (v := val16 ds) (d := (hx (nb t (p + i))).toNat) hi hx';have hp := (List.getElem?_eq_some_iff.mp hb).1
          have ev : V.int (((val16 ds * wt i : Nat) : Int) + hx (nb t (p + i)) * (n : Int)) = V.int ((val16 (ds ++ [(hx (nb t (p + i))).toNat]) * wt (i + 1) : Nat) : Int) := by
            rw [val16_snoc, <- hw]
            congr 1
            have : (((hx (nb t (p + i))).toNat : Nat) : Int) = hx (nb t (p + i)) := by omega
            rw [Int.natCast_add, Int.natCast_mul ((hx (nb t (p + i))).toNat) n, this]
          refine ⟨_, rfl, _, rfl, _, rfl, _, _, rfl, rfl, .inl ⟨by omega, by omega⟩, _, _, rfl, rfl, _, ev, ?_⟩;refine ⟨_, rfl, r, CR, dx, _, _, rfl, R1.at_, T.cl, T.nP, rfl, p + i, 1, rfl, rfl, _, rfl, r, CR, dx, _, rfl, R1.at_, T.cl, T.nP, (by show 3 < 1000; decide), ?_⟩;rw [rf_place];refine ⟨_, _, ds ++ [(hx (nb t (p + i))).toNat], rfl, b1.trans But.upd, R1.put But.upd y1, by rw [List.length_append, hl]; rfl, ?_, ?_⟩
          · rw [take_snoc hb];exact mapM_snoc _ _ _ _ hm ed
          · rw [List.length_drop];omega
    · rintro σ H' ⟨v2, v3, ds, rfl, b1, R1, hl, hm, hn⟩;refine ⟨_, rfl, ?_⟩;have e4 := hex4_ok (p := p) hl hn hm;have := q1 _ e4 H' (b0.trans b1) R1;show Q (.int ((val16 ds * 1 : Nat) : Int)) H';rw [Nat.mul_one];exact this
theorem sc17 : z7 ["self", "high", "low"] ["self"] (y3 (inClass (top 24) 18)) := ⟨rfl, rfl, rfl, by decide +kernel, rfl, by decide +kernel, by decide +kernel⟩
theorem ok_code {f : Addr} {fd : FuncData} (F : Fun K "read_code" "Reader.read_code" (inClass (top 24) 18) f fd) (T : Txt K mg CR CN aB) (C4 : z9 P w K mg base (CXn P w CN) CR "read_four" 3 ["self"] (spFour K CR CN)) (C3 : z9 P w K mg base (CXn P w CN) CR "take" 3 ["self", "byte"] (spTake K CR CN)) : FnOk P w K mg base (CXn P w CN) 4 f fd ["self"] (spCode K CR CN) := by
  refine okx F sc17 (fun vs H Q E h => ?_) (fun cdv A outer s H vs Q E hr h => ?_)
  · obtain ⟨dx, r, a, t, p, c, rfl, _⟩ := h;rfl
  · obtain ⟨dx, r, a, t, p, c, rfl, R, q1, q2⟩ := h
    refine ⟨_, w4 (z6 (i := 1) sc17.nd rfl (Or.inl rfl) (pm0 C4 Q1 T.cl hr (pv 0)))
      (w4 (j7 (Q9 (Y5 W4 W4 y2 (pv 1) y2)) (w8 (y6 (pv 1))) z0)
      (w4 (k8 (pm C3 Q1 T.cl hr (pv 0) (w6 (x8 rfl T.bsl) w9)))
      (w4 (k8 (pm C3 Q1 T.cl hr (pv 0) (w6 (v7 (i := 117) rfl T.ord rfl rfl) w9)))
      (w4 (z6 (i := 2) sc17.nd rfl (Or.inl rfl) (pm0 C4 Q1 T.cl hr (pv 0)))
      (w4 (j7 (pw_or (j8 op_gt (pv 1) y2 (j9 _)) (pw_or1 (Q9 (Y5 W4 W4 y2 (pv 2) y2)))).pt (w8 (Y6 rfl rfl T.nj T.exc PySem.F.excBase_ValueError throws)) z0)
      (w8 (y6 (y8 (op_val0 Z2) (y8 Z2 y2 (y8 op_shl (y8 W7 (pv 1) y2) y2)) (y8 W7 (pv 2) y2))))))))), ?_⟩
    have no : code t p = none -> ∀ H', E (.ref CN) none H' := q2;refine ⟨_, rfl, r, dx, _, rfl, R.at_, rfl, dx, r, a, t, p, c, rfl, R, fun hi e4 H1 b1 R1 => ?_, fun e4 => no (by unfold code; rw [e4]; rfl)⟩;have cs := code_some e4
    have rest : (0xD800 <= hi /\ hi <= 0xDFFF) -> tSeq (W9 (tMeth CR "take" (spTake K CR CN) [] E (tVar 0) (Q0 (tC (.int 92)) tNil))) (tSeq (W9 (tMeth CR "take" (spTake K CR CN) [] E (tVar 0) (Q0 (tC (.int 117)) tNil)))
        (tSeq (tAsg (tMeth CR "read_four" (spFour K CR CN) [] E (tVar 0) tNil) (gName 2)) (tSeq (tIfS (tOr (tTest (tOp (rI0 fun i j => .bl (decide (j < i))) (tVar 1) (tC (.int 56319)))) (tNot (tTest (tChain (rI0 fun i j => .bl (decide (i <= j))) (rI0 fun i j => .bl (decide (i <= j))) (tC (.int 56320)) (tVar 2) (tC (.int 57343)))))) (tRaise E CN) tNext)
          (tRet (tOp (rV0 fun i j => .int (i + j)) (tOp (rI0 fun i j => .int (i + j)) (tC (.int 65536)) (tOp (rI CPow fun i j => .int (i * 2 ^ j.toNat)) (tOp (rI0 fun i j => .int (i - j)) (tVar 1) (tC (.int 55296))) (tC (.int 10)))) (tOp (rI0 fun i j => .int (i - j)) (tVar 2) (tC (.int 56320)))))))) { nx := fun _ H' => Q .non H', rt := Q } [some (.ref r), some (.int (hi : Int)), none] H1 := by
      intro hh;rw [if_neg (fun y => y hh)] at cs;refine ⟨_, rfl, r, dx, _, rfl, R1.at_, rfl, dx, r, a, t, p + 4, c, 92, rfl, by decide, R1, fun e5 H2 b2 R2 => ?_, fun e5 => no ?_⟩
      · refine ⟨_, rfl, r, dx, _, rfl, R2.at_, rfl, dx, r, a, t, p + 4 + 1, c, 117, rfl, by decide, R2, fun e6 H3 b3 R3 => ?_, fun e6 => no ?_⟩
        · have e5' : t[p + 4]? = some 92 := v9.mp e5;have e6' : t[p + 5]? = some 117 := v9.mp e6;rw [if_pos ⟨e5', e6'⟩] at cs;refine ⟨_, rfl, r, dx, _, rfl, R3.at_, rfl, dx, r, a, t, p + 4 + 1 + 1, c, rfl, R3, fun lo e7 H4 b4 R4 => ?_, fun e7 => no ?_⟩
          · have e7' : Sv20.hex4 (t.drop (p + 6)) = some lo := e7;rw [e7'] at cs;have cs' : code t p = if hi <= 0xDBFF /\ 0xDC00 <= lo /\ lo <= 0xDFFF then some (0x10000 + (hi - 0xD800) * 1024 + (lo - 0xDC00), p + 10) else none := cs
            have bad : ¬ (hi <= 0xDBFF /\ 0xDC00 <= lo /\ lo <= 0xDFFF) -> E (.ref CN) none H4 := fun y => no (by rw [cs', if_neg y]) H4
            refine ⟨_, rfl, _, _, rfl, rfl, _, rfl, ?_⟩;refine ite2 (fun e8 => ?_) (fun e8 => ?_)
            · have e8' : (56319 : Int) < hi := of_decide_eq_true e8;exact iteT (bad (by omega))
            · have e8' : ¬ (56319 : Int) < hi := fun y => e8 (decide_eq_true y)
              refine ⟨_, rfl, _, _, rfl, rfl, _, rfl, ?_⟩;refine ite2 (fun e9 => ?_) (fun e9 => ?_)
              · have e9' : (56320 : Int) <= lo := of_decide_eq_true e9;refine ⟨_, _, rfl, rfl, _, rfl, ?_⟩;refine ite2 (fun e10 => ?_) (fun e10 => ?_)
                · have e10' : ¬ (lo : Int) <= 57343 := by simpa using e10
                  exact bad (by omega)
                · have e10' : (lo : Int) <= 57343 := by simpa using e10
                  have ok : hi <= 0xDBFF /\ 0xDC00 <= lo /\ lo <= 0xDFFF := by omega
                  rw [if_pos ok] at cs';refine ⟨_, rfl, _, _, rfl, rfl, _, _, rfl, rfl, ⟨by decide, by decide, by omega⟩, _, _, rfl, rfl, _, rfl, _, _, rfl, rfl, _, _, rfl, rfl, _, ?_, q1 _ _ cs' H4 (((b1.trans b2).trans b3).trans b4) R4⟩;show V.int (65536 + ((hi : Int) - 55296) * 2 ^ 10 + ((lo : Int) - 56320)) = V.int _
                  congr 1
                  omega
              · have e9' : ¬ (56320 : Int) <= lo := fun y => e9 (decide_eq_true y)
                exact ⟨_, rfl, iteT (bad (by omega))⟩
          · have e7' : Sv20.hex4 (t.drop (p + 6)) = none := e7;rw [e7'] at cs;exact cs
        · rw [if_neg (fun y => e6 (v9.mpr y.2))] at cs;exact cs
      · rw [if_neg (fun y => e5 (v9.mpr y.1))] at cs;exact cs
    refine ⟨_, rfl, _, _, rfl, rfl, _, rfl, ?_⟩;refine ite2 (fun e5 => ?_) (fun e5 => ?_)
    · have e5' : (55296 : Int) <= hi := of_decide_eq_true e5;refine ⟨_, _, rfl, rfl, _, rfl, ?_⟩;refine ite2 (fun e6 => ?_) (fun e6 => ?_)
      · have e6' : ¬ (hi : Int) <= 57343 := by simpa using e6
        rw [if_pos (by omega)] at cs;exact ⟨_, rfl, q1 _ _ cs H1 b1 R1⟩
      · have e6' : (hi : Int) <= 57343 := by simpa using e6
        exact rest ⟨by omega, by omega⟩
    · have e5' : ¬ (55296 : Int) <= hi := fun y => e5 (decide_eq_true y)
      rw [if_pos (by omega)] at cs;exact ⟨_, rfl, iteT ⟨_, rfl, q1 _ _ cs H1 b1 R1⟩⟩
end
end J
namespace J
open PySem PySem.Spec PyProof.Rows L2 G Ex
def isI (v : Value) (i : Int) : Bool := match v with
  | .int j _ => decide (j = i)
  | _ => false
theorem isI_is {v : Value} {i : Int} (h : isI v i = true) : ∃ t, v = .int i t := by
  cases v with
  | int j t => exact ⟨t, by rw [of_decide_eq_true (show decide (j = i) = true from h)]⟩
  | _ => cases h
def dOk : List (Nat × Nat) -> List DictEntry -> Bool
  | [], [] => true
  | p :: l, e :: es => isI e.key (p.1 : Int) && (isI e.val (p.2 : Int) && (decide (e.hash = hashInt (p.1 : Int)) && dOk l es))
  | _, _ => false
inductive DRel : List (Nat × Nat) -> List (Key × Value) -> Prop
  | nil : DRel [] []
  | cons {k v : Nat} {t : Tok} {l : List (Nat × Nat)} {vs : List (Key × Value)} : DRel l vs -> DRel ((k, v) :: l) ((Sum.inl (k : Int), Value.int (v : Int) t) :: vs)
theorem dOk_rel {P : Program} {w : World} : ∀ {l : List (Nat × Nat)} {es : List DictEntry}, dOk l es = true -> (∀ e ∈ es, ∃ k, (x4 P w).is k e.key = true /\ e.hash = (x4 P w).hash k) /\ ∃ vs, Pairs (x4 P w) es vs /\ DRel l vs
  | [], [], _ => ⟨(fun e he => nomatch he), [], Pairs.nil, DRel.nil⟩
  | p :: l, e :: es, q => by
    obtain ⟨k, v⟩ := p;obtain ⟨h, ky, vl⟩ := e;have q' : (isI ky (k : Int) && (isI vl (v : Int) && (decide (h = hashInt (k : Int)) && dOk l es))) = true := q;simp only [Bool.and_eq_true, decide_eq_true_eq] at q';obtain ⟨e1, e2, e3, q4⟩ := q';obtain ⟨t1, rfl⟩ := isI_is e1;obtain ⟨t2, rfl⟩ := isI_is e2;subst e3;obtain ⟨h1, vs, h2, h3⟩ := dOk_rel (P := P) (w := w) q4;have hk : (x4 P w).is (Sum.inl (k : Int)) (Value.int (k : Int) t1) = true := Z4 P w _ _;refine ⟨fun e he => ?_, _, .cons (kv := (Sum.inl (k : Int), Value.int (v : Int) t2)) hk rfl h2, .cons h3⟩;rcases List.mem_cons.mp he with z | z
    · subst z; exact ⟨Sum.inl (k : Int), hk, rfl⟩
    · exact h1 e z
  | [], _ :: _, q => by cases q
  | _ :: _, [], q => by cases q
theorem drel_keys {l : List (Nat × Nat)} {vs : List (Key × Value)} (h : DRel l vs) : vs.map (·.1) = l.map fun p => (Sum.inl (p.1 : Int) : Key) := by
  induction h with
  | nil => rfl
  | cons _ ih => rw [List.map_cons, List.map_cons, ih]
def lk (l : List (Nat × Nat)) (z : Int) : Option Nat := (l.find? fun p => decide ((p.1 : Int) = z)).map (·.2)
theorem drel_val {l : List (Nat × Nat)} {vs : List (Key × Value)} (h : DRel l vs) (z : Int) : match lk l z with
    | some v => ∃ t, valueAt vs (Sum.inl z) = some (Value.int (v : Int) t)
    | none => valueAt vs (Sum.inl z) = none := by
  induction h with
  | nil => rfl
  | @cons k v t l vs h ih =>
    unfold lk valueAt;rw [List.find?_cons, List.find?_cons];by_cases e : (k : Int) = z
    · subst e;simp
    · have e1 : decide ((k : Int) = z) = false := decide_eq_false e;have e2 : decide ((Sum.inl (k : Int) : Key) = Sum.inl z) = false := decide_eq_false fun y => e (Sum.inl.inj y)
      simp only [e1, e2];exact ih
structure ModD (K : PySem.W.Frag) (a : Addr) (l : List (Nat × Nat)) : Prop where
  ne : (a == sysModules) = false
  nd : (l.map (·.1)).Nodup
  ex : ∃ o es ep, K.lookup a = some o /\ o.ExactDict /\ o.data = .dict es ep /\ dOk l es.toList = true
section
variable {X : Cx} {pins : List (Addr × Obj)} {σ : L2.St} {H : Hp} {s : Shared}
theorem mod_dict {a : Addr} {l : List (Nat × Nat)} (M : ModD X.K a l) (I : Inv X pins σ H s) : ∃ vs, DRel l vs /\ s.heap.DictOf (x4 X.prog X.w) a vs := by
  obtain ⟨o, es, ep, hk, hx, hd, hq⟩ := M.ex;obtain ⟨h1, vs, h2, h3⟩ := dOk_rel (P := X.prog) (w := X.w) hq;refine ⟨vs, h3, o, es, ep, I.kIn a o hk, hx, hd, fun e he => h1 e (by simpa using he), h2, ?_⟩;rw [drel_keys h3];have nd := M.nd;have : l.map (fun p => (Sum.inl (p.1 : Int) : Key)) = (l.map (fun p : Nat × Nat => p.1)).map (fun k : Nat => (Sum.inl (k : Int) : Key)) := by rw [List.map_map]; rfl
  rw [this];exact List.Pairwise.map _ (fun x y h e => h (by have := Sum.inl.inj e; omega)) nd
theorem op_mnot {a : Addr} {l : List (Nat × Nat)} (M : ModD X.K a l) : OpR X (compareOp .NotIn) (fun x y H Q => ∃ z : Int, x = .int z /\ y = .ref a /\ Q (.bl (!(lk l z).isSome)) H) := by
  intro pins s σ H x y v u Q I rx ry h;obtain ⟨z, rfl, rfl, q⟩ := h;obtain ⟨t, rfl⟩ := rx;cases ry;obtain ⟨vs, dr, dd⟩ := mod_dict M I;refine wpAny_notIn_of (k := (Sum.inl z : Key)) (Z4 X.prog X.w _ _) M.ne dd.mapOf ?_;have hv := drel_val dr z
  have e : (valueAt vs (Sum.inl z)).isSome = (lk l z).isSome := by
    cases hl : lk l z with
    | none => rw [hl] at hv; rw [hv]; rfl
    | some v => rw [hl] at hv; obtain ⟨t2, e⟩ := hv; rw [e]; rfl
  rw [e];exact ⟨.bl _, H, I.tok _, rfl, q⟩
def tMGet (a : Addr) (l : List (Nat × Nat)) (td ty : TE) : TE := fun σ H Q => td σ H fun x H1 => ty σ H1 fun y H2 => ∃ (z : Int) (v : Nat), x = .ref a /\ y = .int z /\ lk l z = some v /\ Q (.int (v : Int)) H2
theorem pe_mget {a : Addr} {l : List (Nat × Nat)} {o i : Expr} {pos : Pos} {td ty : TE} (M : ModD X.K a l) (ho : PE X o td) (hi : PE X i ty) (hs : NoSl i) : PE X (.Subscript o i pos) (tMGet a l td ty) := by
  intro pins s σ H Q I h;refine subD_of PySem.F.slot_dict_getitem.lookup hs (thn (ho pins s σ H _ I h) fun u s1 ⟨x, H1, I1, rx, q1⟩ => thn (hi pins s1 σ H1 _ I1 q1) fun iv s2 ⟨y, H2, I2, ry, z, v, ex, ey, hl, q2⟩ => ?_);subst ex ey;obtain rfl : u = Value.ref a := rx;obtain ⟨t, rfl⟩ := ry;obtain ⟨vs, dr, dd⟩ := mod_dict M I2;have hv := drel_val dr z;rw [hl] at hv;obtain ⟨t2, e⟩ := hv;refine ⟨?_, wpAny_getItem_of (k := (Sum.inl z : Key)) (Z4 X.prog X.w _ _) dd.mapOf e ⟨.int (v : Int), H2, I2.tok _, ⟨t2, rfl⟩, q2⟩⟩;obtain ⟨ob, _, _, e1, ex, _⟩ := dd;exact ⟨ob, e1, ex.1⟩
end
def escs : List (Nat × Nat) := [(34, 34), (92, 92), (47, 47), (98, 8), (102, 12), (110, 10), (114, 13), (116, 9)]
theorem find_look : ∀ (l : List (Nat × Nat)) (c : Nat), (l.find? fun p => decide ((p.1 : Int) = (c : Int))).map (·.2) = l.lookup c
  | [], _ => rfl
  | (k, v) :: l, c => by
    rw [List.find?_cons, List.lookup_cons];by_cases e : k = c
    · subst e; simp
    · have e1 : decide ((k : Int) = (c : Int)) = false := decide_eq_false (by omega);have e2 : (c == k) = false := beq_eq_false_iff_ne.mpr (Ne.symm e);simp only [e1, e2];exact find_look l c
theorem lk_esc (c : Nat) : lk escs (c : Int) = Sv20.escape c := find_look escs c
theorem lk_neg : lk escs (-1) = none := by decide
theorem mapM_lt : ∀ (l ds : List Nat), l.mapM Sv20.hexOf = some ds -> (∀ d ∈ ds, d < 16) /\ ds.length = l.length
  | [], ds, h => by cases h; exact ⟨by simp, rfl⟩
  | a :: l, ds, h => by
    rw [List.mapM_cons] at h;cases ha : Sv20.hexOf a with
    | none => rw [ha] at h; cases h
    | some d =>
      rw [ha] at h;cases hl : l.mapM Sv20.hexOf with
      | none => rw [hl] at h; cases h
      | some ds' =>
        rw [hl] at h;cases h;obtain ⟨h1, h2⟩ := mapM_lt l ds' hl;refine ⟨fun x hx => ?_, by rw [List.length_cons, List.length_cons, h2]⟩;rcases List.mem_cons.mp hx with z | z
        · subst z;rw [hx_of] at ha
          split at ha
          · cases ha
          · have := hx_lt (a : Int);have e := Option.some.inj ha;omega
        · exact h1 x z
theorem hex4_lt {b : List Nat} {n : Nat} (h : Sv20.hex4 b = some n) : n < 65536 := by
  unfold Sv20.hex4 at h
  split at h
  · cases h
  · cases hm : (b.take 4).mapM Sv20.hexOf with
    | none => rw [hm] at h; cases h
    | some ds =>
      rw [hm] at h;have e : val16 ds = n := Option.some.inj h;obtain ⟨h1, h2⟩ := mapM_lt _ _ hm;have hl : ds.length = 4 := by rw [h2, List.length_take]; omega
      match ds, hl with
      | [a, b, c, d], _ =>
        have ha := h1 a (by simp);have hb := h1 b (by simp);have hc := h1 c (by simp);have hd := h1 d (by simp);rw [<- e];show 16 * (16 * (16 * (16 * 0 + a) + b) + c) + d < 65536;omega
theorem code_lt {t : List Nat} {p n p' : Nat} (h : code t p = some (n, p')) : n < 1114112 := by
  unfold code at h;cases h4 : Sv20.hex4 (t.drop p) with
  | none => rw [h4] at h; cases h
  | some c =>
    rw [h4] at h;have lc := hex4_lt h4;have h : (if ¬ (0xD800 <= c /\ c <= 0xDFFF) then some (c, p + 4) else if t[p + 4]? = some 92 /\ t[p + 5]? = some 117 then (Sv20.hex4 (t.drop (p + 6))).bind fun d => if c <= 0xDBFF /\ 0xDC00 <= d /\ d <= 0xDFFF then some (0x10000 + (c - 0xD800) * 1024 + (d - 0xDC00), p + 10) else none else none) = some (n, p') := h
    split at h
    · cases h; omega
    · split at h
      · cases h5 : Sv20.hex4 (t.drop (p + 6)) with
        | none => rw [h5] at h; cases h
        | some d =>
          rw [h5] at h;have h : (if c <= 0xDBFF /\ 0xDC00 <= d /\ d <= 0xDFFF then some (0x10000 + (c - 0xD800) * 1024 + (d - 0xDC00), p + 10) else none) = some (n, p') := h
          split at h
          · have e1 := (Prod.mk.inj (Option.some.inj h)).1; omega
          · cases h
      · cases h
def cont (c : Nat) : Bool := decide (0x80 <= c) && decide (c <= 0xBF)
def okf (t : List Nat) (p l h n : Nat) : Nat := if t.length < p + n then 0 else match t[p + 1]? with
  | none => 0
  | some y => if ¬ (l <= y /\ y <= h) then 0 else if ((t.drop (p + 2)).take (n - 2)).all cont = true then n else 0
def forms : List (List Nat) := [[194, 223, 128, 191, 2], [224, 224, 160, 191, 3], [225, 236, 128, 191, 3], [237, 237, 128, 159, 3], [238, 239, 128, 191, 3], [240, 240, 144, 191, 4], [241, 243, 128, 191, 4], [244, 244, 128, 143, 4]]
def lsz (t : List Nat) (p b : Nat) : List (List Nat) -> Nat
  | [l, h, l2, h2, n] :: r => if l <= b /\ b <= h then okf t p l2 h2 n else lsz t p b r
  | _ => 0
theorem wide_is {b y low high n : Nat} {r : List Nat} (hl : (if b = 0xE0 then 0xA0 else if b = 0xF0 then 0x90 else 0x80) = low) (hh : (if b = 0xED then 0x9F else if b = 0xF4 then 0x8F else 0xBF) = high)
    (hn : (if 0xC2 <= b /\ b <= 0xDF then 2 else if 0xE0 <= b /\ b <= 0xEF then 3 else if 0xF0 <= b /\ b <= 0xF4 then 4 else 0) = n) :
    Sv20.wide (b :: y :: r) = if n = 0 \/ y < low \/ high < y \/ r.length + 2 < n \/ (r.take (n - 2)).all cont = false then none else some n := by
  subst hl hh hn;rfl
theorem okf_wide {t r : List Nat} {p b y low high n : Nat} (hb : t[p]? = some b) (hy : t[p + 1]? = some y) (hr : t.drop (p + 2) = r) (hn : 2 <= n) (hw : Sv20.wide (b :: y :: r) = if n = 0 \/ y < low \/ high < y \/ r.length + 2 < n \/ (r.take (n - 2)).all cont = false then none else some n) :
    okf t p low high n = (Sv20.wide (b :: y :: r)).getD 0 := by
  have hp := (List.getElem?_eq_some_iff.mp hy).1;have lr : r.length = t.length - (p + 2) := by rw [<- hr, List.length_drop]
  rw [hw];unfold okf;rw [hy, hr];by_cases h1 : t.length < p + n
  · rw [if_pos h1, if_pos (.inr (.inr (.inr (.inl (by omega)))))]; rfl
  · rw [if_neg h1];show (if ¬ (low <= y /\ y <= high) then 0 else _) = _;by_cases h2 : low <= y /\ y <= high
    · rw [if_neg (fun z => z h2)];by_cases h3 : (r.take (n - 2)).all cont = true
      · rw [if_pos h3, if_neg]
        · rfl
        · rintro (z | z | z | z | z)
          · omega
          · omega
          · omega
          · omega
          · rw [h3] at z; cases z
      · rw [if_neg h3, if_pos (.inr (.inr (.inr (.inr (by simpa using h3)))))]; rfl
    · rw [if_pos h2, if_pos (by omega)]; rfl
theorem lsz_is {t : List Nat} {p b : Nat} (hb : t[p]? = some b) (h128 : 128 <= b) : lsz t p b forms = (Sv20.wide (t.drop p)).getD 0 := by
  rw [drop_cons hb];cases hy : t[p + 1]? with
  | none =>
    rw [drop_nil hy];have hl := List.getElem?_eq_none_iff.mp hy;have hp := (List.getElem?_eq_some_iff.mp hb).1
    have o : ∀ l h n, okf t p l h n = 0 := fun l h n => by
      unfold okf;rw [hy]
      split <;> rfl
    have e : Sv20.wide [b] = none := rfl;rw [e];unfold forms;simp only [lsz, o];simp
  | some y =>
    rw [drop_cons hy]
    have key : ∀ {low high n : Nat}, (if b = 0xE0 then 0xA0 else if b = 0xF0 then 0x90 else 0x80) = low -> (if b = 0xED then 0x9F else if b = 0xF4 then 0x8F else 0xBF) = high ->
        (if 0xC2 <= b /\ b <= 0xDF then 2 else if 0xE0 <= b /\ b <= 0xEF then 3 else if 0xF0 <= b /\ b <= 0xF4 then 4 else 0) = n -> 2 <= n -> okf t p low high n = (Sv20.wide (b :: y :: t.drop (p + 1 + 1))).getD 0 := fun h1 h2 h3 h4 => okf_wide hb hy rfl h4 (wide_is h1 h2 h3)
    unfold forms;simp only [lsz];by_cases c1 : 194 <= b /\ b <= 223
    · rw [if_pos c1];exact key (by rw [if_neg (by omega), if_neg (by omega)]) (by rw [if_neg (by omega), if_neg (by omega)]) (by rw [if_pos (by omega)]) (by decide)
    · rw [if_neg c1];by_cases c2 : 224 <= b /\ b <= 224
      · rw [if_pos c2];exact key (by rw [if_pos (by omega)]) (by rw [if_neg (by omega), if_neg (by omega)]) (by rw [if_neg (by omega), if_pos (by omega)]) (by decide)
      · rw [if_neg c2];by_cases c3 : 225 <= b /\ b <= 236
        · rw [if_pos c3];exact key (by rw [if_neg (by omega), if_neg (by omega)]) (by rw [if_neg (by omega), if_neg (by omega)]) (by rw [if_neg (by omega), if_pos (by omega)]) (by decide)
        · rw [if_neg c3];by_cases c4 : 237 <= b /\ b <= 237
          · rw [if_pos c4];exact key (by rw [if_neg (by omega), if_neg (by omega)]) (by rw [if_pos (by omega)]) (by rw [if_neg (by omega), if_pos (by omega)]) (by decide)
          · rw [if_neg c4];by_cases c5 : 238 <= b /\ b <= 239
            · rw [if_pos c5];exact key (by rw [if_neg (by omega), if_neg (by omega)]) (by rw [if_neg (by omega), if_neg (by omega)]) (by rw [if_neg (by omega), if_pos (by omega)]) (by decide)
            · rw [if_neg c5];by_cases c6 : 240 <= b /\ b <= 240
              · rw [if_pos c6];exact key (by rw [if_neg (by omega), if_pos (by omega)]) (by rw [if_neg (by omega), if_neg (by omega)]) (by rw [if_neg (by omega), if_neg (by omega), if_pos (by omega)]) (by decide)
              · rw [if_neg c6];by_cases c7 : 241 <= b /\ b <= 243
                · rw [if_pos c7];exact key (by rw [if_neg (by omega), if_neg (by omega)]) (by rw [if_neg (by omega), if_neg (by omega)]) (by rw [if_neg (by omega), if_neg (by omega), if_pos (by omega)]) (by decide)
                · rw [if_neg c7];by_cases c8 : 244 <= b /\ b <= 244
                  · rw [if_pos c8];exact key (by rw [if_neg (by omega), if_neg (by omega)]) (by rw [if_neg (by omega), if_pos (by omega)]) (by rw [if_neg (by omega), if_neg (by omega), if_pos (by omega)]) (by decide)
                  · rw [if_neg c8, wide_is rfl rfl rfl, if_pos]
                    · rfl
                    · left;rw [if_neg (by omega), if_neg (by omega), if_neg (by omega)]
theorem ite2b {b : Bool} {A B : Prop} (h1 : b = true -> A) (h2 : b = false -> B) : if b = true then A else B := by
  cases b with
  | true => rw [if_pos rfl]; exact h1 rfl
  | false => rw [if_neg Bool.false_ne_true]; exact h2 rfl
section
variable {P : Program} {w : World} {K : PySem.W.Frag} {mg : Str -> Option Value} {base : Heap} {CR CN aB : Addr}
theorem scU : z7 ["code"] ["code"] (y3 (top 7)) := ⟨rfl, rfl, rfl, by decide +kernel, rfl, by decide +kernel, by decide +kernel⟩
theorem ok_utf8 {f : Addr} {fd : FuncData} (F : Fun K "utf8_of" "utf8_of" (top 7) f fd) : FnOk P w K mg base CX0 1 f fd ["code"] spUtf8 := by
  refine F.ok scU (fun vs H Q E h => ?_) (fun cdv A outer s H vs Q E hr h => ?_)
  · obtain ⟨c, rfl, _⟩ := h;rfl
  · obtain ⟨c, rfl, hc, q⟩ := h
    refine ⟨_, w4 (j7 (j8 op_lt (pv 0) y2 (j9 _)) (w8 (y6 (W6 (w6 (pv 0) w9)))) z0)
      (w4 (j7 (j8 op_lt (pv 0) y2 (j9 _)) (w8 (y6 (W6 (w6 (y8 n_or y2 (y8 n_shr (pv 0) y2)) (w6 (y8 n_or y2 (y8 n_and (pv 0) y2)) w9))))) z0)
      (w4 (j7 (j8 op_lt (pv 0) y2 (j9 _)) (w8 (y6 (W6 (w6 (y8 n_or y2 (y8 n_shr (pv 0) y2)) (w6 (y8 n_or y2 (y8 n_and (y8 n_shr (pv 0) y2) y2)) (w6 (y8 n_or y2 (y8 n_and (pv 0) y2)) w9)))))) z0)
      (w8 (y6 (W6 (w6 (y8 n_or y2 (y8 n_shr (pv 0) y2)) (w6 (y8 n_or y2 (y8 n_and (y8 n_shr (pv 0) y2) y2)) (w6 (y8 n_or y2 (y8 n_and (y8 n_shr (pv 0) y2) y2)) (w6 (y8 n_or y2 (y8 n_and (pv 0) y2)) w9))))))))), ?_⟩
    have m63 : ∀ x, Nat.land x 63 = x % 64 := fun x => Nat.and_two_pow_sub_one_eq_mod x 6
    have o128 : ∀ x, x < 64 -> Nat.lor 128 x = 0x80 + x := fun x h => lor_hi 6 2 x h
    have o192 : ∀ x, x < 64 -> Nat.lor 192 x = 0xC0 + x := fun x h => lor_hi 6 3 x h
    have o224 : ∀ x, x < 32 -> Nat.lor 224 x = 0xE0 + x := fun x h => lor_hi 5 7 x h
    have o240 : ∀ x, x < 16 -> Nat.lor 240 x = 0xF0 + x := fun x h => lor_hi 4 15 x h
    refine ⟨_, rfl, _, 128, rfl, rfl, _, rfl, ?_⟩;refine ite2 (fun e => ?_) (fun e => ?_)
    · have e' : (c : Int) < 128 := of_decide_eq_true e;refine ⟨_, rfl, (by show 1 <= sizeLine; decide), fun l hl => q l _ (z8 hl _) hl ?_⟩;unfold Sv20.utf8;rw [if_pos (by omega), y1]; rfl
    · have e' : ¬ (c : Int) < 128 := fun y => e (decide_eq_true y)
      refine ⟨_, rfl, _, 2048, rfl, rfl, _, rfl, ?_⟩;refine ite2 (fun e2 => ?_) (fun e2 => ?_)
      · have e2' : (c : Int) < 2048 := of_decide_eq_true e2;refine ⟨_, rfl, c, 6, rfl, rfl, 192, _, rfl, rfl, _, rfl, c, 63, rfl, rfl, 128, _, rfl, rfl, (by show 2 <= sizeLine; decide), fun l hl => q l _ (z8 hl _) hl ?_⟩;unfold Sv20.utf8;rw [if_neg (by omega), if_pos (by omega), y1];show some (HO.lst [V.int ((Nat.lor 192 (c / 2 ^ 6) : Nat) : Int), V.int ((Nat.lor 128 (Nat.land c 63) : Nat) : Int)]) = _;rw [m63, o192 _ (by omega), o128 _ (by omega)];rfl
      · have e2' : ¬ (c : Int) < 2048 := fun y => e2 (decide_eq_true y)
        obtain ⟨bb, hb⟩ : ∃ bb, decide ((c : Int) < 65536) = bb := ⟨_, rfl⟩;refine ⟨_, rfl, (c : Int), 65536, rfl, rfl, bb, congrArg V.bl hb, ite2b (b := bb) (fun e3 => ?_) (fun e3 => ?_)⟩
        · have e3' : (c : Int) < 65536 := of_decide_eq_true (hb.trans e3);refine ⟨_, rfl, c, 12, rfl, rfl, 224, _, rfl, rfl, _, rfl, c, 6, rfl, rfl, _, 63, rfl, rfl, 128, _, rfl, rfl, _, rfl, c, 63, rfl, rfl, 128, _, rfl, rfl, (by show 3 <= sizeLine; decide), fun l hl => q l _ (z8 hl _) hl ?_⟩;unfold Sv20.utf8;rw [if_neg (by omega), if_neg (by omega), if_pos (by omega), y1];show some (HO.lst [V.int ((Nat.lor 224 (c / 2 ^ 12) : Nat) : Int), V.int ((Nat.lor 128 (Nat.land (c / 2 ^ 6) 63) : Nat) : Int), V.int ((Nat.lor 128 (Nat.land c 63) : Nat) : Int)]) = _;rw [m63, m63, o224 _ (by omega), o128 _ (by omega), o128 _ (by omega)];rfl
        · have e3' : ¬ (c : Int) < 65536 := of_decide_eq_false (hb.trans e3);refine ⟨_, rfl, c, 18, rfl, rfl, 240, _, rfl, rfl, _, rfl, c, 12, rfl, rfl, _, 63, rfl, rfl, 128, _, rfl, rfl, _, rfl, c, 6, rfl, rfl, _, 63, rfl, rfl, 128, _, rfl, rfl, _, rfl, c, 63, rfl, rfl, 128, _, rfl, rfl, (by show 4 <= sizeLine; decide), fun l hl => q l _ (z8 hl _) hl ?_⟩;unfold Sv20.utf8;rw [if_neg (by omega), if_neg (by omega), if_neg (by omega), y1];show some (HO.lst [V.int ((Nat.lor 240 (c / 2 ^ 18) : Nat) : Int), V.int ((Nat.lor 128 (Nat.land (c / 2 ^ 12) 63) : Nat) : Int), V.int ((Nat.lor 128 (Nat.land (c / 2 ^ 6) 63) : Nat) : Int), V.int ((Nat.lor 128 (Nat.land c 63) : Nat) : Int)]) = _;rw [m63, m63, m63, o240 _ (by omega), o128 _ (by omega), o128 _ (by omega), o128 _ (by omega)];rfl
end
end J
namespace J
open PySem PySem.Spec PyProof.Rows L2 G Ex
structure Txt5 (K : PySem.W.Frag) (mg : Str -> Option Value) (aL aE : Addr) (as : List Addr) : Prop where
  lf : mg "LONG_FORMS" = some (.ref aL)
  lv : ∀ H, SqT K H aL (as.map V.ref)
  fv : ∀ (i : Nat) (f : List Nat) (a : Addr), forms[i]? = some f -> as[i]? = some a -> ∀ H, SqT K H a (nv f)
  n8 : as.length = 8
  es : mg "ESCAPES" = some (.ref aE)
  ed : ModD K aE escs
theorem form5 : ∀ f ∈ forms, ∃ l h l2 h2 n : Nat, f = [l, h, l2, h2, n] /\ 2 <= n /\ n <= 4 := by
  intro f hf;unfold forms at hf;simp only [List.mem_cons, List.not_mem_nil, or_false] at hf;rcases hf with rfl | rfl | rfl | rfl | rfl | rfl | rfl | rfl <;> exact ⟨_, _, _, _, _, rfl, by decide, by decide⟩
theorem cut_nat {t : List Nat} {i j : Nat} (h1 : i <= j) (h2 : j <= t.length) : cutV (nv t) (some ((i : Nat) : Int)) (some ((j : Nat) : Int)) = nv ((t.drop i).take (j - i)) := by
  unfold cutV;rw [HT.sIx_nat, HT.sIx_nat, j5, Nat.min_eq_left (by omega), Nat.min_eq_left (by omega)];unfold nv;rw [<- List.map_drop, <- List.map_take]
theorem any_not (l : List Nat) : (l.map fun c => !cont c).any id = !(l.all cont) := by
  induction l with
  | nil => rfl
  | cons a l ih => rw [List.map_cons, List.any_cons, ih, List.all_cons]; cases cont a <;> rfl
theorem yes {te : TE} {σ : L2.St} {H : Hp} {k : VK} {n : Hp -> Prop} (h : te σ H k) : tYes σ H fun b H3 => if b = true then te σ H3 k else n H3 := by
  show if true = true then te σ H k else n H
  rw [if_pos rfl];exact h
def sz (t : List Nat) (p b : Nat) : Nat := if b < 128 then 1 else (Sv20.wide (t.drop p)).getD 0
section
variable (K : PySem.W.Frag) (CR CN : Addr)
def spLong : Sp := fun vs H Q _ => ∃ (a : Addr) (t : List Nat) (p b : Nat), vs = [.ref a, .int (p : Int)] /\ SqL K H a (nv t) /\ t.length <= 100000 /\ t[p]? = some b /\ ∀ H', Same H H' -> Q (.int ((lsz t p b forms : Nat) : Int)) H'
def spSize : Sp := fun vs H Q _ => ∃ (a : Addr) (t : List Nat) (p b : Nat), vs = [.ref a, .int (p : Int)] /\ SqL K H a (nv t) /\ t.length <= 100000 /\ t[p]? = some b /\ ∀ H', Same H H' -> Q (.int ((sz t p b : Nat) : Int)) H'
end
section
variable {P : Program} {w : World} {K : PySem.W.Frag} {mg : Str -> Option Value} {base : Heap} {CR CN aB aL aE : Addr} {as : List Addr}
abbrev nL : List Str := ["text", "place", "first_from", "first_to", "second_from", "second_to", "size", "byte"]
theorem scL : z7 nL ["text", "place"] (y3 (top 5)) := ⟨rfl, rfl, rfl, by decide +kernel, rfl, by decide +kernel, by decide +kernel⟩
theorem ok_long {f : Addr} {fd : FuncData} (F : Fun K "long_sign_size" "long_sign_size" (top 5) f fd) (T : Txt K mg CR CN aB) (T5 : Txt5 K mg aL aE as) : FnOk P w K mg base CX0 1 f fd ["text", "place"] (spLong K) := by
  refine F.ok scL (fun vs H Q E h => ?_) (fun cdv A outer s H vs Q E hr h => ?_)
  · obtain ⟨a, t, p, b, rfl, _⟩ := h;rfl
  · obtain ⟨a, t, p, b, rfl, hS, hl, hb, q⟩ := h;have lz : sizeLine = 16777216 := rfl
    refine ⟨_, w4 (ps_for PassesOwn.never rfl (pi_tup (pe_glob (v := .ref aL) rfl T5.lf rfl))
        (pg_tup (n := 5) rfl (W3 (k9 (i := 2) scL.nd rfl (Or.inl rfl)) (W3 (k9 (i := 3) scL.nd rfl (Or.inl rfl)) (W3 (k9 (i := 4) scL.nd rfl (Or.inl rfl)) (W3 (k9 (i := 5) scL.nd rfl (Or.inl rfl)) (W3 (k9 (i := 6) scL.nd rfl (Or.inl rfl)) pgs_nil))))))
        (w8 (j7 (Y5 W4 W4 (pv 2) (Q8 v8 (pv 0) (pv 1) (fun _ _ => rfl)) (pv 3))
          (w4 (j7 (PW.pt (pw_or (j8 op_gt (y8 Q2 (pv 1) (pv 6)) (Z8 rfl T.len (pv 0)) (j9 _)) (pw_or1 (Q9 (Y5 W4 W4 (pv 4) (Q8 v8 (pv 0) (y8 Q2 (pv 1) y2) (fun _ _ => rfl)) (pv 5)))))) (w8 (y6 y2)) z0)
          (w4 (j7 (x5 (pe_callB (cr_any rfl) rfl T.any PyProof.Rows.boot_any (w6 (pe_lc (own := [("byte", 7)]) rfl scL.nd (pi_list (Y7 sl_list (pv 0) (Q5 (y8 Q2 (pv 1) y2)) (Q5 (y8 Q2 (pv 1) (pv 6)))))
              (Y8 (by show blkC nL (y3 (top 5)) _ [("byte", 7)] = true; decide +kernel)) (fun s H C cl fp => k9 (i := 7) scL.nd rfl (Or.inl rfl)) (fun s H C cl fp => pts_nil) (fun s H C cl fp => pe_not (pe_chain W4 W4 y2 (pv 7) y2))) w9))) (w8 (y6 y2)) z0)
          (w8 (y6 (pv 6))))) z0)))
      (w8 (y6 y2)), ?_⟩
    refine ⟨aL, rfl, ⟨_, T5.lv _⟩, for_tup (K := K) (a := aL) (xs := as.map V.ref) (fun i σ H' => ∃ v2 v3 v4 v5 v6 : Option V, σ = [some (.ref a), some (.int (p : Int)), v2, v3, v4, v5, v6, none] /\ Same H H' /\ lsz t p b forms = lsz t p b (forms.drop i))
      ⟨none, none, none, none, none, rfl, Same.refl _, rfl⟩ (fun i σ H' _ _ => T5.lv _) ?_ ?_⟩
    · rintro i x σ H1 hx ⟨v2, v3, v4, v5, v6, rfl, s1, e1⟩;have hi : i < 8 := by have := (List.getElem?_eq_some_iff.mp hx).1; rw [List.length_map, T5.n8] at this; exact this
      obtain ⟨ai, hai, rfl⟩ : ∃ ai, as[i]? = some ai /\ x = V.ref ai := by
        rw [List.getElem?_map] at hx;cases e : as[i]? with
        | none => rw [e] at hx; cases hx
        | some ai => rw [e] at hx; exact ⟨ai, rfl, (Option.some.inj hx).symm⟩
      have hfi : forms[i]? = some forms[i] := List.getElem?_eq_getElem hi;obtain ⟨l, h, l2, h2, n, ef, n2, n4⟩ := form5 forms[i] (List.getElem_mem hi);have hT := T5.fv i _ ai hfi hai;rw [List.drop_eq_getElem_cons hi, ef] at e1;rw [ef] at hT;have e2 : lsz t p b forms = if l <= b /\ b <= h then okf t p l2 h2 n else lsz t p b (forms.drop (i + 1)) := e1
      have q' : ∀ k : Nat, lsz t p b forms = k -> ∀ H', Same H H' -> Q (.int (k : Int)) H' := fun k e => by rw [<- e]; exact q
      refine ⟨ai, _, rfl, hT _, rfl, _, _, rfl, _, _, rfl, _, _, rfl, _, _, rfl, _, _, rfl, rfl, ?_⟩;have hat : atI (nv t) (p : Int) = some (.int (b : Int)) := at_of (j := p) rfl (nv_get hb);refine ⟨_, rfl, _, rfl, _, rfl, a, _, _, _, rfl, rfl, s1.seq hS, hat, _, _, rfl, rfl, _, rfl, ?_⟩;refine ite2 (fun c1 => ?_) (fun c1 => ?_)
      · have c1' : (l : Int) <= b := of_decide_eq_true c1;refine ⟨_, rfl, _, _, rfl, rfl, _, rfl, ?_⟩;refine ite2 (fun c2 => ?_) (fun c2 => ?_)
        · have c2' : (b : Int) <= h := of_decide_eq_true c2;rw [if_pos ⟨by omega, by omega⟩] at e2;unfold okf at e2;refine ⟨_, rfl, _, rfl, p, n, rfl, rfl, _, rfl, a, _, rfl, .inl (s1.seq hS), _, _, rfl, rfl, _, rfl, ?_⟩;refine ite2 (fun c3 => ?_) (fun c3 => ?_)
          · have c3' : ((nv t).length : Int) < ((p + n : Nat) : Int) := of_decide_eq_true c3;rw [j5] at c3';rw [if_pos (by omega)] at e2;exact iteT (q' 0 e2 _ s1)
          · have c3' : ¬ ((nv t).length : Int) < ((p + n : Nat) : Int) := fun y => c3 (decide_eq_true y)
            rw [j5] at c3';rw [if_neg (by omega)] at e2;have hp1 : p + 1 < t.length := by omega
            have hy : t[p + 1]? = some t[p + 1] := List.getElem?_eq_getElem hp1;rw [hy] at e2;generalize t[p + 1] = y at hy e2;have e3 : lsz t p b forms = if ¬ (l2 <= y /\ y <= h2) then 0 else if ((t.drop (p + 2)).take (n - 2)).all cont = true then n else 0 := e2
            have bad : ¬ (l2 <= y /\ y <= h2) -> Q (.int ((0 : Nat) : Int)) H1 := fun z => q' 0 (by rw [e3, if_pos z]) _ s1
            have haty : atI (nv t) ((p + 1 : Nat) : Int) = some (.int (y : Int)) := at_of (j := p + 1) rfl (nv_get hy);refine ⟨_, rfl, _, rfl, _, rfl, p, 1, rfl, rfl, a, _, _, _, rfl, rfl, s1.seq hS, haty, _, _, rfl, rfl, _, rfl, ?_⟩;refine ite2 (fun c4 => ?_) (fun c4 => ?_)
            · have c4' : (l2 : Int) <= y := of_decide_eq_true c4;refine ⟨_, rfl, _, _, rfl, rfl, _, rfl, ?_⟩;refine ite2 (fun c5 => ?_) (fun c5 => ?_)
              · have c5' : ¬ (y : Int) <= h2 := by simpa using c5
                exact bad (by omega)
              · have c5' : (y : Int) <= h2 := by simpa using c5
                rw [if_neg (fun z => z ⟨by omega, by omega⟩)] at e3;refine ⟨_, rfl, _, rfl, p, 2, rfl, rfl, _, rfl, _, rfl, _, rfl, p, n, rfl, rfl, _, rfl, a, _, rfl, s1.seq hS, fun d hd => ?_⟩
                have ec : cutV (nv t) (some ((p + 2 : Nat) : Int)) (some ((p + n : Nat) : Int)) = nv ((t.drop (p + 2)).take (n - 2)) := by
                  rw [cut_nat (by omega) (by omega)]
                  congr 2
                  omega
                have s2 : Same H1 (upd H1 d (.lst (cutV (nv t) (some ((p + 2 : Nat) : Int)) (some ((p + n : Nat) : Int))))) := z8 hd _;have kd : (upd H1 d (.lst (cutV (nv t) (some ((p + 2 : Nat) : Int)) (some ((p + n : Nat) : Int))))) d = some (.lst (nv ((t.drop (p + 2)).take (n - 2)))) := by rw [y1, ec]
                have hcs : ((t.drop (p + 2)).take (n - 2)).length <= 100000 := by rw [List.length_take, List.length_drop]; omega
                generalize (t.drop (p + 2)).take (n - 2) = cs at kd e3 hcs;refine ⟨d, rfl, ⟨_, SqL.of kd⟩, fun D hD => ?_⟩
                refine lc_list (K := K) (a := d) (xs := nv cs) (fun j H' => Same (upd H1 d (.lst (cutV (nv t) (some ((p + 2 : Nat) : Int)) (some ((p + n : Nat) : Int))))) H' /\ H' D = some (.lst (((cs.take j).map fun c => !cont c).map V.bl)))
                  ⟨z8 hD _, y1⟩ (fun j H' _ z => SqL.of (z.1 _ _ kd)) ?_ ?_
                · rintro j x H' hx' ⟨z, kz⟩;obtain ⟨m, hm, rfl⟩ := nv_ex hx';have hj : j < cs.length := (List.getElem?_eq_some_iff.mp hm).1;refine ⟨rfl, yes ?_⟩
                  have fin : ∀ bb : Bool, bb = cont m -> ∃ acc, H' D = some (.lst acc) /\ acc.length < sizeLine /\ Same (upd H1 d (.lst (cutV (nv t) (some ((p + 2 : Nat) : Int)) (some ((p + n : Nat) : Int))))) (upd H' D (.lst (acc ++ [.bl (!bb)]))) /\ (upd H' D (.lst (acc ++ [.bl (!bb)]))) D = some (.lst (((cs.take (j + 1)).map fun c => !cont c).map V.bl)) := fun bb e => by
                    refine ⟨_, kz, ?_, Q3 z hD _, ?_⟩
                    · rw [List.length_map, List.length_map, List.length_take];omega
                    · rw [y1, List.take_add_one, hm, e, List.map_append, List.map_append];rfl
                  refine ⟨_, rfl, 128, (m : Int), rfl, rfl, _, rfl, ?_⟩;refine ite2 (fun d1 => ?_) (fun d1 => ?_)
                  · have d1' : (128 : Int) <= m := of_decide_eq_true d1;refine ⟨(m : Int), 191, rfl, rfl, _, rfl, fin _ ?_⟩;unfold cont;rw [decide_eq_true (show (0x80 : Nat) <= m by omega), Bool.true_and];by_cases d2 : m <= 191
                    · rw [decide_eq_true (show (m : Int) <= 191 by omega), decide_eq_true d2]
                    · rw [decide_eq_false (show ¬ (m : Int) <= 191 by omega), decide_eq_false d2]
                  · have d1' : ¬ (128 : Int) <= m := fun y => d1 (decide_eq_true y)
                    refine ⟨_, rfl, fin _ ?_⟩;unfold cont;rw [decide_eq_false (show ¬ (0x80 : Nat) <= m by omega), Bool.false_and]
                · rintro H' ⟨z, kz⟩;rw [List.take_of_length_le (by rw [j5]; exact Nat.le_refl _)] at kz;have sz' : Same H H' := s1.trans (s2.trans z);refine ⟨D, _, rfl, SqL.of kz, _, rfl, ?_⟩;rw [any_not];cases hall : cs.all cont with
                  | true =>
                    rw [hall, if_pos rfl] at e3;exact iteF ⟨_, rfl, q' n e3 _ sz'⟩
                  | false =>
                    rw [hall, if_neg Bool.false_ne_true] at e3;exact iteT (q' 0 e3 _ sz')
            · have c4' : ¬ (l2 : Int) <= y := fun z => c4 (decide_eq_true z)
              exact ⟨_, rfl, iteT (bad (by omega))⟩
        · have c2' : ¬ (b : Int) <= h := fun y => c2 (decide_eq_true y)
          rw [if_neg (fun z => c2' (by omega))] at e2;exact ⟨_, _, _, _, _, rfl, s1, e2⟩
      · have c1' : ¬ (l : Int) <= b := fun y => c1 (decide_eq_true y)
        rw [if_neg (fun z => c1' (by omega))] at e2;exact ⟨_, rfl, iteF ⟨_, _, _, _, _, rfl, s1, e2⟩⟩
    · rintro σ H1 ⟨v2, v3, v4, v5, v6, rfl, s1, e1⟩;have e2 : lsz t p b (forms.drop (as.map V.ref).length) = 0 := by rw [List.length_map, T5.n8]; rfl
      rw [e2] at e1;have := q H1 s1;rw [e1] at this;exact this
end
end J
namespace J
open PySem PySem.Spec PyProof.Rows L2 G Ex
def sgn (t : List Nat) (p : Nat) : Option Nat := match t[p]? with
  | none => none
  | some b => if b < 32 then none else if b < 128 then some 1 else Sv20.wide (t.drop p)
def esc (t : List Nat) (p : Nat) : Option (List Nat × Nat) := match t[p]? with
  | none => none
  | some b => if b = 117 then (code t (p + 1)).map fun x => (Sv20.utf8 x.1, x.2) else (Sv20.escape b).map fun e => ([e], p + 1)
def wn (b : Nat) : Nat := if 0xC2 <= b /\ b <= 0xDF then 2 else if 0xE0 <= b /\ b <= 0xEF then 3 else if 0xF0 <= b /\ b <= 0xF4 then 4 else 0
theorem wn_in (b : Nat) : wn b = 0 \/ (2 <= wn b /\ wn b <= 4) := by
  unfold wn
  repeat' split
  all_goals omega
theorem wide_in {x y n : Nat} {r : List Nat} (h : Sv20.wide (x :: y :: r) = some n) : 2 <= n /\ n <= 4 /\ n <= r.length + 2 := by
  obtain ⟨lo, hlo⟩ : ∃ lo, (if x = 0xE0 then 0xA0 else if x = 0xF0 then 0x90 else 0x80) = lo := ⟨_, rfl⟩;obtain ⟨hi, hhi⟩ : ∃ hi, (if x = 0xED then 0x9F else if x = 0xF4 then 0x8F else 0xBF) = hi := ⟨_, rfl⟩;obtain ⟨k, hk⟩ : ∃ k, wn x = k := ⟨_, rfl⟩;rw [wide_is hlo hhi hk] at h;have hw := wn_in x;rw [hk] at hw;by_cases hc : k = 0 \/ y < lo \/ hi < y \/ r.length + 2 < k \/ (r.take (k - 2)).all cont = false
  · rw [if_pos hc] at h; cases h
  · rw [if_neg hc] at h;have e := Option.some.inj h;subst e;refine ⟨?_, ?_, ?_⟩
    · rcases hw with z | z
      · exact absurd (.inl z) hc
      · exact z.1
    · rcases hw with z | z
      · exact absurd (.inl z) hc
      · exact z.2
    · exact Nat.le_of_not_lt fun z => hc (.inr (.inr (.inr (.inl z))))
theorem wide_le {b : List Nat} {n : Nat} (h : Sv20.wide b = some n) : 2 <= n /\ n <= 4 /\ n <= b.length := by
  match b, h with
  | [], h => cases h
  | [x], h => cases h
  | x :: y :: r, h => exact wide_in h
theorem sgn_le {t : List Nat} {p n : Nat} (h : sgn t p = some n) : 1 <= n /\ p + n <= t.length /\ n <= 4 := by
  unfold sgn at h;cases hb : t[p]? with
  | none => rw [hb] at h; cases h
  | some b =>
    rw [hb] at h;have hp := (List.getElem?_eq_some_iff.mp hb).1;have h : (if b < 32 then none else if b < 128 then some 1 else Sv20.wide (t.drop p)) = some n := h;by_cases c1 : b < 32
    · rw [if_pos c1] at h; cases h
    · rw [if_neg c1] at h;by_cases c2 : b < 128
      · rw [if_pos c2] at h; cases h; omega
      · rw [if_neg c2] at h;have := wide_le h;rw [List.length_drop] at this;omega
theorem sz_sgn {t : List Nat} {p b : Nat} (hb : t[p]? = some b) (h : ¬ b < 32) : sz t p b = (sgn t p).getD 0 := by
  unfold sz sgn;rw [hb];show _ = (if b < 32 then none else if b < 128 then some 1 else Sv20.wide (t.drop p)).getD 0;rw [if_neg h]
  split <;> rfl
def numP (t : List Nat) (p : Nat) : Option Nat :=
  let p1 := if t[p]? = some 45 then p + 1 else p
  (if t[p1]? = some 48 then some (p1 + 1) else if isd (nb t p1) = true then some (run Sv20.digit t p1) else none).bind fun p2 =>
  (if t[p2]? = some 46 then (if isd (nb t (p2 + 1)) = true then some (run Sv20.digit t (p2 + 1)) else none) else some p2).bind fun p3 =>
  if t[p3]? = some 101 \/ t[p3]? = some 69 then
    let p5 := if t[p3 + 1]? = some 43 \/ t[p3 + 1]? = some 45 then p3 + 2 else p3 + 1
    if isd (nb t p5) = true then some (run Sv20.digit t p5) else none
  else some p3
section
variable (K : PySem.W.Frag) (CR CN : Addr)
def spSign : Sp := fun vs H Q E => ∃ dx r a t p c, vs = [.ref r] /\ Rat K CR dx r a t p c H /\ (∀ n, sgn t p = some n -> ∀ l H', But r H H' -> H l = none -> H' l = some (.lst (nv ((t.drop p).take n))) -> Rat K CR dx r a t (p + n) c H' -> Q (.ref l) H') /\ (sgn t p = none -> ∀ H', E (.ref CN) none H')
def spEsc : Sp := fun vs H Q E => ∃ dx r a t p c, vs = [.ref r] /\ Rat K CR dx r a t p c H /\ (∀ x p', esc t p = some (x, p') -> ∀ l H', But r H H' -> H l = none -> H' l = some (.lst (nv x)) -> Rat K CR dx r a t p' c H' -> Q (.ref l) H') /\ (esc t p = none -> ∀ H', E (.ref CN) none H')
def spNum : Sp := fun vs H Q E => ∃ dx r a t p c, vs = [.ref r] /\ Rat K CR dx r a t p c H /\ (∀ p', numP t p = some p' -> ∀ l H', But r H H' -> H l = none -> H' l = some (.lst (nv ((t.drop p).take (p' - p)))) -> Rat K CR dx r a t p' c H' -> Q (.ref l) H') /\ (numP t p = none -> ∀ H', E (.ref CN) none H')
end
section
variable {P : Program} {w : World} {K : PySem.W.Frag} {mg : Str -> Option Value} {base : Heap} {CR CN aB aL aE : Addr} {as : List Addr}
theorem scZ : z7 ["text", "place"] ["text", "place"] (y3 (top 6)) := ⟨rfl, rfl, rfl, by decide +kernel, rfl, by decide +kernel, by decide +kernel⟩
theorem ok_size {f : Addr} {fd : FuncData} (F : Fun K "sign_size" "sign_size" (top 6) f fd) (CL : Callee P w K mg base CX0 "long_sign_size" 1 ["text", "place"] (spLong K)) : FnOk P w K mg base CX0 2 f fd ["text", "place"] (spSize K) := by
  refine F.ok scZ (fun vs H Q E h => ?_) (fun cdv A outer s H vs Q E hr h => ?_)
  · obtain ⟨a, t, p, b, rfl, _⟩ := h;rfl
  · obtain ⟨a, t, p, b, rfl, hS, hl, hb, q⟩ := h;refine ⟨_, w4 (j7 (j8 op_lt (Q8 v8 (pv 0) (pv 1) (fun _ _ => rfl)) y2 (j9 _)) (w8 (y6 y2)) z0) (w8 (y6 (j6 CL j0 hr rfl (w6 (pv 0) (w6 (pv 1) w9))))), ?_⟩;have hat : atI (nv t) (p : Int) = some (.int (b : Int)) := at_of (j := p) rfl (nv_get hb);refine ⟨_, rfl, _, rfl, a, _, _, _, rfl, rfl, hS, hat, _, 128, rfl, rfl, _, rfl, ?_⟩;refine ite2 (fun e => ?_) (fun e => ?_)
    · have e' : (b : Int) < 128 := of_decide_eq_true e;have := q H (Same.refl _);unfold sz at this;rw [if_pos (by omega)] at this;exact this
    · have e' : ¬ (b : Int) < 128 := fun y => e (decide_eq_true y)
      refine ⟨_, rfl, _, rfl, a, t, p, b, rfl, hS, hl, hb, fun H' s => ?_⟩;have := q H' s;unfold sz at this;rw [if_neg (by omega), <- lsz_is hb (by omega)] at this;exact this
theorem sc15 : z7 ["self", "start", "size"] ["self"] (y3 (inClass (top 24) 16)) := ⟨rfl, rfl, rfl, by decide +kernel, rfl, by decide +kernel, by decide +kernel⟩
theorem ok_sign {f : Addr} {fd : FuncData} (F : Fun K "read_sign" "Reader.read_sign" (inClass (top 24) 16) f fd) (T : Txt K mg CR CN aB) (C1 : z9 P w K mg base CX0 CR "next_byte" 1 ["self"] (spNext K CR)) (CZ : Callee P w K mg base CX0 "sign_size" 2 ["text", "place"] (spSize K)) : FnOk P w K mg base (CXn P w CN) 3 f fd ["self"] (spSign K CR CN) := by
  refine okx F sc15 (fun vs H Q E h => ?_) (fun cdv A outer s H vs Q E hr h => ?_)
  · obtain ⟨dx, r, a, t, p, c, rfl, _⟩ := h;rfl
  · obtain ⟨dx, r, a, t, p, c, rfl, R, q1, q2⟩ := h;have hr1 : Room 1 _ := hr.mono (by decide)
    refine ⟨_, w4 (j7 (j8 op_lt (pm0 C1 j0 T.cl hr1 (pv 0)) y2 (j9 _)) (w8 (Y6 rfl rfl T.nj T.exc PySem.F.excBase_ValueError throws)) z0)
      (w4 (z6 (i := 1) sc15.nd rfl (Or.inl rfl) (k7 (pv 0) rfl))
      (w4 (z6 (i := 2) sc15.nd rfl (Or.inl rfl) (j6 CZ j0 hr rfl (w6 (k7 (pv 0) rfl) (w6 (pv 1) w9))))
      (w4 (j7 (j8 op_eq (pv 2) y2 (j9 _)) (w8 (Y6 rfl rfl T.nj T.exc PySem.F.excBase_ValueError throws)) z0)
      (w4 (Y2 (pv 0) (y8 Q2 (pv 1) (pv 2)) rfl)
      (w8 (y6 (Y7 sl_list (k7 (pv 0) rfl) (Q5 (pv 1)) (Q5 (k7 (pv 0) rfl))))))))), ?_⟩
    refine ⟨_, rfl, r, dx, _, rfl, R.at_, rfl, dx, r, a, t, p, c, rfl, R, _, 32, rfl, rfl, _, rfl, ?_⟩;refine ite2 (fun e => ?_) (fun e => ?_)
    · have e' : nb t p < 32 := of_decide_eq_true e;refine q2 ?_ H;unfold sgn;cases hb : t[p]? with
      | none => rfl
      | some b =>
        rw [Z0 hb] at e';show (if b < 32 then none else _) = none;rw [if_pos (by omega)]
    · have e' : ¬ nb t p < 32 := fun y => e (decide_eq_true y)
      cases hb : t[p]? with
      | none => rw [nb_none hb] at e'; exact absurd (by decide) e'
      | some b =>
        rw [Z0 hb] at e';have hs := sz_sgn hb (by omega);refine ⟨_, rfl, r, CR, dx, _, _, rfl, R.at_, T.cl, T.nP, rfl, ?_⟩;refine ⟨_, rfl, r, CR, dx, _, _, rfl, R.at_, T.cl, T.nT, rfl, _, rfl, a, t, p, b, rfl, R.txt, R.len, hb, fun H1 s1 => ?_⟩;have R1 : Rat K CR dx r a t p c H1 := R.put (Same.but s1) (s1 _ _ R.at_);refine ⟨_, rfl, rfl, _, rfl, ?_⟩;cases hg : sgn t p with
        | none =>
          have z : sz t p b = 0 := by rw [hs, hg]; rfl
          rw [z];exact iteT (q2 hg H1)
        | some n =>
          have z : sz t p b = n := by rw [hs, hg]; rfl
          obtain ⟨n1, n2, n3⟩ := sgn_le hg;rw [z]
          have ne : decide (V.int ((n : Nat) : Int) = V.int 0) = false := decide_eq_false fun y => by
            have := V.int.inj y;omega
          show if decide (V.int ((n : Nat) : Int) = V.int 0) = true then _ else _
          rw [ne];refine iteF ?_;refine ⟨_, rfl, _, rfl, p, n, rfl, rfl, _, rfl, r, CR, dx, _, rfl, R1.at_, T.cl, T.nP, (by show 3 < 1000; decide), ?_⟩;rw [rf_place];have R2 : Rat K CR dx r a t (p + n) c (upd H1 r (.ins CR dx (rf a (p + n) c))) := R1.put But.upd y1;refine ⟨_, rfl, r, CR, dx, _, _, rfl, R2.at_, T.cl, T.nT, rfl, _, rfl, _, rfl, _, rfl, r, CR, dx, _, _, rfl, R2.at_, T.cl, T.nP, rfl, _, rfl, a, _, rfl, R2.txt, fun l hl => ?_⟩;have nel : r ≠ l := y4 R2.at_ hl;have b2 : But r H (upd H1 r (.ins CR dx (rf a (p + n) c))) := (Same.but s1).trans But.upd
          have hl0 : H l = none := by
            cases q : H l with
            | none => rfl
            | some o => rw [b2 l o q (Ne.symm nel)] at hl; cases hl
          refine q1 n hg l _ (fun b' o h n' => by rw [y9 (fun y => by rw [y, hl0] at h; cases h)]; exact b2 b' o h n') hl0 ?_ (R2.put (fun b' o h n' => by rw [y9 (y4 h hl)]; exact h) (by rw [y9 nel]; exact R2.at_));rw [y1, cut_nat (by omega) n2]
          congr 4
          omega
theorem sc16 : z7 ["self", "byte"] ["self"] (y3 (inClass (top 24) 17)) := ⟨rfl, rfl, rfl, by decide +kernel, rfl, by decide +kernel, by decide +kernel⟩
theorem ok_esc {f : Addr} {fd : FuncData} (F : Fun K "read_escape" "Reader.read_escape" (inClass (top 24) 17) f fd) (T : Txt K mg CR CN aB) (T5 : Txt5 K mg aL aE as) (C1 : z9 P w K mg base CX0 CR "next_byte" 1 ["self"] (spNext K CR)) (C2 : z9 P w K mg base CX0 CR "passes" 2 ["self", "byte"] (Y0 K CR))
    (C3 : z9 P w K mg base (CXn P w CN) CR "take" 3 ["self", "byte"] (spTake K CR CN)) (C4 : z9 P w K mg base (CXn P w CN) CR "read_code" 4 ["self"] (spCode K CR CN)) (CU : Callee P w K mg base CX0 "utf8_of" 1 ["code"] spUtf8) : FnOk P w K mg base (CXn P w CN) 5 f fd ["self"] (spEsc K CR CN) := by
  refine okx F sc16 (fun vs H Q E h => ?_) (fun cdv A outer s H vs Q E hr h => ?_)
  · obtain ⟨dx, r, a, t, p, c, rfl, _⟩ := h;rfl
  · obtain ⟨dx, r, a, t, p, c, rfl, R, q1, q2⟩ := h;have hr1 : Room 1 _ := hr.mono (by decide);have hr2 : Room 2 _ := hr.mono (by decide);have hr3 : Room 3 _ := hr.mono (by decide)
    refine ⟨_, w4 (j7 (x5 (pm C2 j0 T.cl hr2 (pv 0) (w6 (v7 (i := 117) rfl T.ord rfl rfl) w9))) (w8 (y6 (j6 CU j0 hr1 rfl (w6 (pm0 C4 Q1 T.cl hr (pv 0)) w9)))) z0)
      (w4 (z6 (i := 1) sc16.nd rfl (Or.inl rfl) (pm0 C1 j0 T.cl hr1 (pv 0)))
      (w4 (j7 (j8 (op_mnot T5.ed) (pv 1) (pe_glob (v := .ref aE) rfl T5.es rfl) (by with_unfolding_all rfl)) (w8 (Y6 rfl rfl T.nj T.exc PySem.F.excBase_ValueError throws)) z0)
      (w4 (k8 (pm C3 Q1 T.cl hr3 (pv 0) (w6 (pv 1) w9)))
      (w8 (y6 (W6 (w6 (pe_mget T5.ed (pe_glob (v := .ref aE) rfl T5.es rfl) (pv 1) (fun _ _ => rfl)) w9))))))), ?_⟩
    refine ⟨_, rfl, r, dx, _, rfl, R.at_, rfl, dx, r, a, t, p, c, 117, rfl, by decide, R, fun e H1 b1 R1 => ?_, fun e => ?_⟩
    · have e' : t[p]? = some 117 := v9.mp e;have ee : esc t p = (code t (p + 1)).map fun x => (Sv20.utf8 x.1, x.2) := by unfold esc; rw [e']; rfl
      refine ⟨_, rfl, iteT ?_⟩;refine ⟨_, rfl, r, dx, _, rfl, R1.at_, rfl, dx, r, a, t, p + 1, c, rfl, R1, fun n p' hc H2 b2 R2 => ?_, fun hc => q2 (by rw [ee, hc]; rfl)⟩;refine ⟨n, rfl, code_lt hc, fun l H3 s3 hl kl => ?_⟩;have nel : r ≠ l := y4 R2.at_ hl;refine q1 _ _ (by rw [ee, hc]; rfl) l H3 ((b1.trans b2).trans (Same.but s3)) ?_ kl (R2.put (Same.but s3) (s3 _ _ R2.at_));cases q : H l with
      | none => rfl
      | some o => rw [(b1.trans b2) l o q (Ne.symm nel)] at hl; cases hl
    · have e' : ¬ t[p]? = some 117 := fun y => e (v9.mpr y)
      refine ⟨_, rfl, iteF ?_⟩;refine ⟨_, rfl, r, dx, _, rfl, R.at_, rfl, dx, r, a, t, p, c, rfl, R, ?_⟩;refine ⟨_, rfl, _, rfl, rfl, _, rfl, ?_⟩;cases hb : t[p]? with
      | none =>
        rw [nb_none hb, lk_neg];exact iteT (q2 (by unfold esc; rw [hb]) H)
      | some b =>
        have nb117 : b ≠ 117 := fun y => e' (by rw [hb, y])
        have ee : esc t p = (Sv20.escape b).map fun e => ([e], p + 1) := by
          unfold esc;rw [hb];show (if b = 117 then _ else _) = _;rw [if_neg nb117]
        rw [Z0 hb, lk_esc];cases hk : Sv20.escape b with
        | none => exact iteT (q2 (by rw [ee, hk]; rfl) H)
        | some v =>
          refine iteF ?_;refine ⟨_, rfl, r, dx, _, rfl, R.at_, rfl, _, rfl, dx, r, a, t, p, c, (b : Int), rfl, Int.natCast_nonneg _, R, fun e2 H1 b1 R1 => ?_, fun e2 => absurd (Z0 hb) e2⟩;refine ⟨_, rfl, (b : Int), v, rfl, rfl, by rw [lk_esc]; exact hk, (by show 1 <= sizeLine; decide), fun l hl => ?_⟩;have nel : r ≠ l := y4 R1.at_ hl
          have hl0 : H l = none := by
            cases q : H l with
            | none => rfl
            | some o => rw [b1 l o q (Ne.symm nel)] at hl; cases hl
          exact q1 _ _ (by rw [ee, hk]; rfl) l _ (fun b' o h n' => by rw [y9 (fun y => by rw [y, hl0] at h; cases h)]; exact b1 b' o h n') hl0 y1 (R1.put (fun b' o h n' => by rw [y9 (y4 h hl)]; exact h) (by rw [y9 nel]; exact R1.at_))
end
end J
namespace J
open PySem PySem.Spec PyProof.Rows L2 G Ex
theorem string_plain {f b : Nat} {r : List Nat} (h1 : b ≠ 34) (h2 : b ≠ 92) : Sv20.string (f + 1) (b :: r) = if b < 32 \/ b = 92 then none else if b < 128 then (Sv20.string f r).map fun x => (b :: x.1, x.2) else (Sv20.wide (b :: r)).bind fun n => (Sv20.string f ((b :: r).drop n)).map fun x => ((b :: r).take n ++ x.1, x.2) := by
  conv => lhs; unfold Sv20.string
  split
  · rename_i e; exact absurd (List.cons.inj e).1 h1
  · rename_i e; exact absurd (List.cons.inj e).1 h2
  · rename_i e; exact absurd (List.cons.inj e).1 h2
  · rename_i e
    obtain ⟨e1, e2⟩ := List.cons.inj e;subst e1 e2;rfl
  · rename_i e; cases e
theorem string_esc {f c : Nat} {r : List Nat} (h : c ≠ 117) : Sv20.string (f + 1) (92 :: c :: r) = (Sv20.escape c).bind fun e => (Sv20.string f r).map fun x => (e :: x.1, x.2) := by
  conv => lhs; unfold Sv20.string
  split
  · rename_i e; exact absurd (List.cons.inj e).1 (by decide)
  · rename_i e; exact absurd (List.cons.inj (List.cons.inj e).2).1 h
  · rename_i e
    obtain ⟨e1, e2⟩ := List.cons.inj (List.cons.inj e).2;subst e1 e2;rfl
  · rename_i n1 n2 e
    obtain ⟨e1, e2⟩ := List.cons.inj e;subst e1 e2;exact absurd rfl (n2 _ _ rfl)
  · rename_i e; cases e
theorem str_quote {t : List Nat} {p f : Nat} (h : t[p]? = some 34) : Sv20.string (f + 1) (t.drop p) = some ([], t.drop (p + 1)) := by
  rw [drop_cons h]; rfl
theorem str_end {t : List Nat} {p f : Nat} (h : t[p]? = none) : Sv20.string (f + 1) (t.drop p) = none := by
  rw [drop_nil h]; rfl
theorem str_sign {t : List Nat} {p b f : Nat} (h : t[p]? = some b) (h1 : b ≠ 34) (h2 : b ≠ 92) : Sv20.string (f + 1) (t.drop p) = (sgn t p).bind fun n => (Sv20.string f (t.drop (p + n))).map fun x => ((t.drop p).take n ++ x.1, x.2) := by
  have es : sgn t p = if b < 32 then none else if b < 128 then some 1 else Sv20.wide (t.drop p) := by unfold sgn; rw [h]
  rw [es];have ed := drop_cons h;rw [ed, string_plain h1 h2];by_cases c1 : b < 32
  · rw [if_pos (.inl c1), if_pos c1]; rfl
  · rw [if_neg (fun z => z.elim c1 h2), if_neg c1];by_cases c2 : b < 128
    · rw [if_pos c2, if_pos c2];rfl
    · rw [if_neg c2, if_neg c2];cases hw : Sv20.wide (b :: t.drop (p + 1)) with
      | none => rfl
      | some n =>
        show (Sv20.string f ((b :: t.drop (p + 1)).drop n)).map _ = (Sv20.string f (t.drop (p + n))).map _;rw [<- ed, List.drop_drop]
theorem str_esc {t : List Nat} {p f : Nat} (h : t[p]? = some 92) : Sv20.string (f + 1) (t.drop p) = (esc t (p + 1)).bind fun y => (Sv20.string f (t.drop y.2)).map fun x => (y.1 ++ x.1, x.2) := by
  rw [drop_cons h];cases h1 : t[p + 1]? with
  | none =>
    have ee : esc t (p + 1) = none := by unfold esc; rw [h1]
    rw [drop_nil h1, ee];rfl
  | some c =>
    rw [drop_cons h1];by_cases hc : c = 117
    · subst hc;have ee : esc t (p + 1) = (code t (p + 1 + 1)).map fun x => (Sv20.utf8 x.1, x.2) := by unfold esc; rw [h1]; rfl
      rw [ee]
      show ((Sv20.hex4 (t.drop (p + 1 + 1))).bind fun c =>
        if 0xDC00 <= c /\ c <= 0xDFFF then none
        else if 0xD800 <= c /\ c <= 0xDBFF then (match (t.drop (p + 1 + 1)).drop 4 with
          | 92 :: 117 :: t => (Sv20.hex4 t).bind fun d => if 0xDC00 <= d /\ d <= 0xDFFF then (Sv20.string f (t.drop 4)).map fun x => (Sv20.utf8 (0x10000 + (c - 0xD800) * 1024 + (d - 0xDC00)) ++ x.1, x.2) else none
          | _ => none)
        else (Sv20.string f ((t.drop (p + 1 + 1)).drop 4)).map fun x => (Sv20.utf8 c ++ x.1, x.2)) = _
      generalize hq : p + 1 + 1 = q;cases h4 : Sv20.hex4 (t.drop q) with
      | none =>
        have : code t q = none := by unfold code; rw [h4]; rfl
        rw [this]; rfl
      | some n =>
        have cs := code_some h4
        show (if 0xDC00 <= n /\ n <= 0xDFFF then none else if 0xD800 <= n /\ n <= 0xDBFF then (match (t.drop q).drop 4 with
          | 92 :: 117 :: t => (Sv20.hex4 t).bind fun d => if 0xDC00 <= d /\ d <= 0xDFFF then (Sv20.string f (t.drop 4)).map fun x => (Sv20.utf8 (0x10000 + (n - 0xD800) * 1024 + (d - 0xDC00)) ++ x.1, x.2) else none
          | _ => none) else (Sv20.string f ((t.drop q).drop 4)).map fun x => (Sv20.utf8 n ++ x.1, x.2)) = _
        by_cases c1 : 0xD800 <= n /\ n <= 0xDFFF
        · rw [if_neg (fun z => z c1)] at cs;by_cases c3 : n <= 0xDBFF
          · rw [if_neg (by omega), if_pos ⟨c1.1, c3⟩, List.drop_drop];by_cases c4 : t[q + 4]? = some 92 /\ t[q + 5]? = some 117
            · rw [if_pos c4] at cs;rw [drop_cons c4.1, drop_cons (p := q + 4 + 1) c4.2];show (Sv20.hex4 (t.drop (q + 4 + 1 + 1))).bind _ = _;cases h5 : Sv20.hex4 (t.drop (q + 6)) with
              | none =>
                rw [h5] at cs;have cs' : code t q = none := cs;rw [cs']; rfl
              | some d =>
                rw [h5] at cs;have cs' : code t q = if n <= 0xDBFF /\ 0xDC00 <= d /\ d <= 0xDFFF then some (0x10000 + (n - 0xD800) * 1024 + (d - 0xDC00), q + 10) else none := cs
                show (if 0xDC00 <= d /\ d <= 0xDFFF then (Sv20.string f ((t.drop (q + 4 + 1 + 1)).drop 4)).map _ else none) = _;by_cases c5 : 0xDC00 <= d /\ d <= 0xDFFF
                · rw [if_pos ⟨c3, c5⟩] at cs';rw [if_pos c5, List.drop_drop, cs'];generalize 0x10000 + (n - 0xD800) * 1024 + (d - 0xDC00) = N;rfl
                · rw [if_neg (fun z => c5 z.2)] at cs';rw [if_neg c5, cs'];rfl
            · rw [if_neg c4] at cs;rw [cs];show _ = none
              split
              · rename_i e
                exfalso;have g0 : (t.drop (q + 4))[0]? = some 92 := by rw [e]; rfl
                have g1 : (t.drop (q + 4))[1]? = some 117 := by rw [e]; rfl
                rw [List.getElem?_drop] at g0 g1;exact c4 ⟨g0, g1⟩
              · rfl
          · rw [if_pos (by omega)]
            have cn : code t q = none := by
              rw [cs];by_cases c4 : t[q + 4]? = some 92 /\ t[q + 5]? = some 117
              · rw [if_pos c4];cases h5 : Sv20.hex4 (t.drop (q + 6)) with
                | none => rfl
                | some d =>
                  show (if n <= 0xDBFF /\ 0xDC00 <= d /\ d <= 0xDFFF then some (0x10000 + (n - 0xD800) * 1024 + (d - 0xDC00), q + 10) else none) = none;rw [if_neg (fun z => c3 z.1)]
              · rw [if_neg c4]
            rw [cn];rfl
        · rw [if_pos c1] at cs;rw [if_neg (by omega), if_neg (by omega), List.drop_drop, cs];rfl
    · have ee : esc t (p + 1) = (Sv20.escape c).map fun e => ([e], p + 1 + 1) := by
        unfold esc;rw [h1];show (if c = 117 then _ else _) = _;rw [if_neg hc]
      rw [ee, string_esc hc];cases Sv20.escape c <;> rfl
theorem hex4_len {b : List Nat} {n : Nat} (h : Sv20.hex4 b = some n) : 4 <= b.length := by
  unfold Sv20.hex4 at h;by_cases c : b.length < 4
  · rw [if_pos c] at h; cases h
  · omega
theorem utf8_len (c : Nat) : (Sv20.utf8 c).length <= 4 := by
  unfold Sv20.utf8
  repeat' split
  all_goals simp
theorem code_in {t : List Nat} {p n p' : Nat} (h : code t p = some (n, p')) : p < p' /\ p' <= t.length := by
  cases h4 : Sv20.hex4 (t.drop p) with
  | none => unfold code at h; rw [h4] at h; cases h
  | some c =>
    rw [code_some h4] at h;have l4 := hex4_len h4;rw [List.length_drop] at l4;by_cases c1 : 0xD800 <= c /\ c <= 0xDFFF
    · rw [if_neg (fun z => z c1)] at h;by_cases c4 : t[p + 4]? = some 92 /\ t[p + 5]? = some 117
      · rw [if_pos c4] at h;cases h5 : Sv20.hex4 (t.drop (p + 6)) with
        | none => rw [h5] at h; cases h
        | some d =>
          rw [h5] at h;have l5 := hex4_len h5;rw [List.length_drop] at l5;have h : (if c <= 0xDBFF /\ 0xDC00 <= d /\ d <= 0xDFFF then some (0x10000 + (c - 0xD800) * 1024 + (d - 0xDC00), p + 10) else none) = some (n, p') := h;by_cases c6 : c <= 0xDBFF /\ 0xDC00 <= d /\ d <= 0xDFFF
          · rw [if_pos c6] at h;have e := (Prod.mk.inj (Option.some.inj h)).2;omega
          · rw [if_neg c6] at h; cases h
      · rw [if_neg c4] at h; cases h
    · rw [if_pos c1] at h;have e := (Prod.mk.inj (Option.some.inj h)).2;omega
theorem esc_in {t x : List Nat} {p p' : Nat} (h : esc t p = some (x, p')) : p < p' /\ p' <= t.length /\ x.length <= 4 := by
  unfold esc at h;cases hb : t[p]? with
  | none => rw [hb] at h; cases h
  | some b =>
    rw [hb] at h;have hp := (List.getElem?_eq_some_iff.mp hb).1;have h : (if b = 117 then (code t (p + 1)).map fun x => (Sv20.utf8 x.1, x.2) else (Sv20.escape b).map fun e => ([e], p + 1)) = some (x, p') := h;by_cases c : b = 117
    · rw [if_pos c] at h;cases hc : code t (p + 1) with
      | none => rw [hc] at h; cases h
      | some y =>
        rw [hc] at h;obtain ⟨n, q⟩ := y;have e := Prod.mk.inj (Option.some.inj h);have := code_in hc;rw [<- e.1, <- e.2];exact ⟨by omega, this.2, utf8_len _⟩
    · rw [if_neg c] at h;cases he : Sv20.escape b with
      | none => rw [he] at h; cases h
      | some v =>
        rw [he] at h;have e := Prod.mk.inj (Option.some.inj h);rw [<- e.1, <- e.2];exact ⟨by omega, by omega, by show 1 <= 4; decide⟩
section
variable (K : PySem.W.Frag) (CR CN : Addr)
def spStr : Sp := fun vs H Q E => ∃ dx r a t p c, vs = [.ref r] /\ Rat K CR dx r a t p c H /\ (¬ t[p]? = some 34 -> ∀ H', E (.ref CN) none H') /\
  (t[p]? = some 34 -> (Sv20.string ((t.drop (p + 1)).length + 1) (t.drop (p + 1)) = none -> ∀ H', E (.ref CN) none H') /\
    ∀ x p', Sv20.string ((t.drop (p + 1)).length + 1) (t.drop (p + 1)) = some (x, t.drop p') -> p < p' -> p' <= t.length -> x.length <= 400000 -> ∀ l H', But r H H' -> H l = none -> H' l = some (.lst (nv x)) -> Rat K CR dx r a t p' c H' -> Q (.ref l) H')
end
section
variable {P : Program} {w : World} {K : PySem.W.Frag} {mg : Str -> Option Value} {base : Heap} {CR CN aB aL aE : Addr} {as : List Addr}
theorem sc14 : z7 ["self", "said"] ["self"] (y3 (inClass (top 24) 15)) := ⟨rfl, rfl, rfl, by decide +kernel, rfl, by decide +kernel, by decide +kernel⟩
theorem ok_str {f : Addr} {fd : FuncData} (F : Fun K "read_string" "Reader.read_string" (inClass (top 24) 15) f fd) (T : Txt K mg CR CN aB) (C2 : z9 P w K mg base CX0 CR "passes" 2 ["self", "byte"] (Y0 K CR))
    (C3 : z9 P w K mg base (CXn P w CN) CR "take" 3 ["self", "byte"] (spTake K CR CN)) (CE : z9 P w K mg base (CXn P w CN) CR "read_escape" 5 ["self"] (spEsc K CR CN)) (CS : z9 P w K mg base (CXn P w CN) CR "read_sign" 3 ["self"] (spSign K CR CN)) : FnOk P w K mg base (CXn P w CN) 6 f fd ["self"] (spStr K CR CN) := by
  refine okx F sc14 (fun vs H Q E h => ?_) (fun cdv A outer s H vs Q E hr h => ?_)
  · obtain ⟨dx, r, a, t, p, c, rfl, _⟩ := h;rfl
  · obtain ⟨dx, r, a, t, p, c, rfl, R, q0, q1⟩ := h;have hr2 : Room 2 _ := hr.mono (by decide);have hr3 : Room 3 _ := hr.mono (by decide);have lz : sizeLine = 16777216 := rfl
    refine ⟨_, w4 (z6 (i := 1) sc14.nd rfl (Or.inl rfl) (W6 w9))
      (w4 (k8 (pm C3 Q1 T.cl hr3 (pv 0) (w6 (x8 rfl T.quo) w9)))
      (w4 (ps_while ownp (Q9 (x5 (pm C2 j0 T.cl hr2 (pv 0) (w6 (x8 rfl T.quo) w9))))
        (w8 (j7 (x5 (pm C2 j0 T.cl hr2 (pv 0) (w6 (x8 rfl T.bsl) w9)))
          (w8 (k8 (pe_bm PySem.F.plainAttrs_list PySem.F.slot_list_extend PySem.F.type_list_extend mt_extend (pv 1) (w6 (pm0 CE Q1 T.cl hr (pv 0)) w9))))
          (w8 (k8 (pe_bm PySem.F.plainAttrs_list PySem.F.slot_list_extend PySem.F.type_list_extend mt_extend (pv 1) (w6 (pm0 CS Q1 T.cl hr3 (pv 0)) w9)))))))
      (w8 (y6 (pv 1))))), ?_⟩
    refine ⟨Nat.zero_le _, fun S hS => ?_⟩;have neS : r ≠ S := y4 R.at_ hS;have b0 : But r H (upd H S (.lst [])) := fun b o e _ => by rw [y9 (y4 e hS)]; exact e
    have R0 : Rat K CR dx r a t p c (upd H S (.lst [])) := R.put b0 (by rw [y9 neS]; exact R.at_);have k0 : (upd H S (.lst [])) S = some (.lst (nv [])) := y1;refine ⟨_, rfl, r, dx, _, rfl, R0.at_, rfl, dx, r, a, t, p, c, 34, rfl, by decide, R0, fun e H1 b1 R1 => ?_, fun e => q0 fun y => e (v9.mpr y)⟩;have e' : t[p]? = some 34 := v9.mp e;obtain ⟨qn, qs⟩ := q1 e';have hp := (List.getElem?_eq_some_iff.mp e').1;have k1 : H1 S = some (.lst (nv [])) := b1 _ _ k0 neS.symm
    refine ⟨fun m σ H' => ∃ p' sl f, σ = [some (.ref r), some (.ref S)] /\ But r H H' /\ H' S = some (.lst (nv sl)) /\ Rat K CR dx r a t p' c H' /\ Sv20.string ((t.drop (p + 1)).length + 1) (t.drop (p + 1)) = (Sv20.string f (t.drop p')).map (fun x => (sl ++ x.1, x.2)) /\ (t.drop p').length + 1 <= f /\ sl.length <= 4 * p' /\ p < p' /\ p' <= t.length /\ m = t.length + 1 - p',
      ⟨_, p + 1, [], _, rfl, b0.trans b1, k1, R1, ?_, Nat.le_refl _, by simp, by omega, by omega, rfl⟩, ?_⟩
    · cases Sv20.string ((t.drop (p + 1)).length + 1) (t.drop (p + 1)) <;> rfl
    rintro m σ H2 ⟨p', sl, f, rfl, b2, k2, R2, es, hf, hsl, hpp, hp', rfl⟩;obtain ⟨g, rfl⟩ : ∃ g, f = g + 1 := ⟨f - 1, by omega⟩;have hlen := R2.len;refine ⟨_, rfl, r, dx, _, rfl, R2.at_, rfl, dx, r, a, t, p', c, 34, rfl, by decide, R2, fun e2 H3 b3 R3 => ?_, fun e2 => ?_⟩
    · refine ⟨_, rfl, iteF ?_⟩;have e2' : t[p']? = some 34 := v9.mp e2;rw [str_quote e2'] at es;have es' : Sv20.string ((t.drop (p + 1)).length + 1) (t.drop (p + 1)) = some (sl, t.drop (p' + 1)) := by rw [es]; show some (sl ++ [], _) = _; rw [List.append_nil]
      have hq := (List.getElem?_eq_some_iff.mp e2').1;exact ⟨_, rfl, qs sl (p' + 1) es' (by omega) (by omega) (by omega) S H3 (b2.trans b3) hS (b3 _ _ k2 neS.symm) R3⟩
    · refine ⟨_, rfl, iteT ?_⟩;have e2' : ¬ t[p']? = some 34 := fun y => e2 (v9.mpr y)
      refine ⟨fun σ' H' => ∃ p2 sl2 f2, σ' = [some (.ref r), some (.ref S)] /\ But r H H' /\ H' S = some (.lst (nv sl2)) /\ Rat K CR dx r a t p2 c H' /\ Sv20.string ((t.drop (p + 1)).length + 1) (t.drop (p + 1)) = (Sv20.string f2 (t.drop p2)).map (fun x => (sl2 ++ x.1, x.2)) /\ (t.drop p2).length + 1 <= f2 /\ sl2.length <= 4 * p2 /\ p' < p2 /\ p2 <= t.length,
        fun σ' H' ⟨p2, sl2, f2, h1, h2, h3, h4, h5, h6, h7, h8, h9⟩ => ⟨t.length + 1 - p2, by omega, p2, sl2, f2, h1, h2, h3, h4, h5, h6, h7, by omega, h9, rfl⟩, ?_⟩
      have join : ∀ (x : List Nat) (p2 : Nat), Sv20.string (g + 1) (t.drop p') = (Sv20.string g (t.drop p2)).map (fun y => (x ++ y.1, y.2)) -> Sv20.string ((t.drop (p + 1)).length + 1) (t.drop (p + 1)) = (Sv20.string g (t.drop p2)).map (fun y => ((sl ++ x) ++ y.1, y.2)) := fun x p2 h => by
        rw [es, h];cases Sv20.string g (t.drop p2) with
        | none => rfl
        | some y => show some (sl ++ (x ++ y.1), y.2) = some ((sl ++ x) ++ y.1, y.2); rw [List.append_assoc]
      rw [List.length_drop] at hf;refine ⟨_, rfl, r, dx, _, rfl, R2.at_, rfl, dx, r, a, t, p', c, 92, rfl, by decide, R2, fun e3 H3 b3 R3 => ?_, fun e3 => ?_⟩
      · have e3' : t[p']? = some 92 := v9.mp e3;have k3 : H3 S = some (.lst (nv sl)) := b3 _ _ k2 neS.symm;have se := str_esc (f := g) e3';refine ⟨_, rfl, iteT ?_⟩;refine ⟨_, rfl, .inl ⟨rfl, _, SqL.of k3⟩, _, rfl, r, dx, _, rfl, R3.at_, rfl, dx, r, a, t, p' + 1, c, rfl, R3, fun x p2 he l H4 b4 hl kl R4 => ?_, fun he => qn (by rw [es, se, he]; rfl)⟩;obtain ⟨x1, x2, x3⟩ := esc_in he;have k4 : H4 S = some (.lst (nv sl)) := b4 _ _ k3 neS.symm;rw [he] at se;refine ⟨S, l, _, _, rfl, rfl, k4, kl, by rw [j5, j5]; omega, ?_⟩;have bb : But r H (upd H4 S (.lst (nv sl ++ nv x))) := fun b o e n => by rw [y9 (y4 e hS)]; exact ((b2.trans b3).trans b4) b o e n
        exact ⟨p2, sl ++ x, g, rfl, bb, by rw [y1, Y3], R.put bb (by rw [y9 neS]; exact R4.at_), join x p2 se, by rw [List.length_drop]; omega, by rw [List.length_append]; omega, by omega, x2⟩
      · have e3' : ¬ t[p']? = some 92 := fun y => e3 (v9.mpr y)
        have bad : sgn t p' = none -> ∀ H', E (.ref CN) none H' := fun hg => qn (by
          rw [es];cases hb : t[p']? with
          | none => rw [str_end hb]; rfl
          | some b => rw [str_sign hb (fun y => e2' (by rw [hb, y])) (fun y => e3' (by rw [hb, y])), hg]; rfl)
        refine ⟨_, rfl, iteF ?_⟩;refine ⟨_, rfl, .inl ⟨rfl, _, SqL.of k2⟩, _, rfl, r, dx, _, rfl, R2.at_, rfl, dx, r, a, t, p', c, rfl, R2, fun n hg l H4 b4 hl kl R4 => ?_, bad⟩;obtain ⟨n1, n2, n3⟩ := sgn_le hg;have hb : t[p']? = some t[p'] := List.getElem?_eq_getElem (by omega);have se := str_sign (f := g) hb (fun y => e2' (by rw [hb, y])) (fun y => e3' (by rw [hb, y]));rw [hg] at se;have k4 : H4 S = some (.lst (nv sl)) := b4 _ _ k2 neS.symm;have lx : ((t.drop p').take n).length <= 4 := by rw [List.length_take]; omega
        refine ⟨S, l, _, _, rfl, rfl, k4, kl, by rw [j5, j5]; omega, ?_⟩;have bb : But r H (upd H4 S (.lst (nv sl ++ nv ((t.drop p').take n)))) := fun b o e n => by rw [y9 (y4 e hS)]; exact (b2.trans b4) b o e n
        exact ⟨p' + n, sl ++ (t.drop p').take n, g, rfl, bb, by rw [y1, Y3], R.put bb (by rw [y9 neS]; exact R4.at_), join _ _ se, by rw [List.length_drop]; omega, by rw [List.length_append]; omega, by omega, n2⟩
end
end J
namespace J
open PySem PySem.Spec PyProof.Rows L2 G Ex
theorem isd_get {t : List Nat} {p : Nat} (h : isd (nb t p) = true) : ∃ b, t[p]? = some b /\ Sv20.digit b = true := by
  cases hb : t[p]? with
  | none => rw [isd_none hb] at h; cases h
  | some b => rw [J0 hb] at h; exact ⟨b, rfl, h⟩
theorem dig_yes {t : List Nat} {p : Nat} (h : isd (nb t p) = true) : Sv20.digits (t.drop p) = some ((t.drop p).takeWhile Sv20.digit, t.drop (run Sv20.digit t p)) := by
  obtain ⟨b, hb, hd⟩ := isd_get h
  have ne : ¬ (t.drop p).takeWhile Sv20.digit = [] := by
    rw [drop_cons hb, List.takeWhile_cons, if_pos hd];exact List.cons_ne_nil _ _
  show (if (t.drop p).takeWhile Sv20.digit = [] then none else some ((t.drop p).takeWhile Sv20.digit, (t.drop p).drop ((t.drop p).takeWhile Sv20.digit).length)) = _;rw [if_neg ne, List.drop_drop];rfl
theorem dig_no {t : List Nat} {p : Nat} (h : isd (nb t p) = false) : Sv20.digits (t.drop p) = none := by
  have e : (t.drop p).takeWhile Sv20.digit = [] := by
    cases hb : t[p]? with
    | none => rw [drop_nil hb]; rfl
    | some b =>
      rw [J0 hb] at h;rw [drop_cons hb, List.takeWhile_cons, if_neg (by rw [h]; decide)]
  show (if (t.drop p).takeWhile Sv20.digit = [] then none else _) = _;rw [if_pos e]
theorem run_in {t : List Nat} {p : Nat} (q : Nat -> Bool) (h : p <= t.length) : p <= run q t p /\ run q t p <= t.length := by
  unfold run;have := (List.takeWhile_sublist q (l := t.drop p)).length_le;rw [List.length_drop] at this;omega
theorem run_lt {t : List Nat} {p : Nat} (h : isd (nb t p) = true) : p < run Sv20.digit t p /\ run Sv20.digit t p <= t.length := by
  obtain ⟨b, hb, hd⟩ := isd_get h;have hp := (List.getElem?_eq_some_iff.mp hb).1;have := run_in (t := t) (p := p + 1) Sv20.digit (by omega);rw [run_step hb hd] at this;omega
theorem head_drop (t : List Nat) (p : Nat) : (t.drop p).head? = t[p]? := by rw [List.head?_drop]
def numE (t : List Nat) (p3 : Nat) : Option Nat :=
  if t[p3]? = some 101 \/ t[p3]? = some 69 then (if isd (nb t (if t[p3 + 1]? = some 43 \/ t[p3 + 1]? = some 45 then p3 + 2 else p3 + 1)) = true then some (run Sv20.digit t (if t[p3 + 1]? = some 43 \/ t[p3 + 1]? = some 45 then p3 + 2 else p3 + 1)) else none) else some p3
def numF (t : List Nat) (p2 : Nat) : Option Nat := (if t[p2]? = some 46 then (if isd (nb t (p2 + 1)) = true then some (run Sv20.digit t (p2 + 1)) else none) else some p2).bind (numE t)
def num1 (t : List Nat) (p : Nat) : Nat := if t[p]? = some 45 then p + 1 else p
def numI (t : List Nat) (p1 : Nat) : Option Nat := if t[p1]? = some 48 then some (p1 + 1) else if isd (nb t p1) = true then some (run Sv20.digit t p1) else none
theorem numP_is (t : List Nat) (p : Nat) : numP t p = (numI t (num1 t p)).bind (numF t) := rfl
theorem exp_spec (t : List Nat) (p3 : Nat) (A : List Nat -> List Nat -> List Nat -> List Nat) (B : List Nat) : ((match t.drop p3 with
      | e :: r => if e = 101 \/ e = 69 then
          (Sv20.digits (r.drop (if r.head? = some 43 \/ r.head? = some 45 then r.take 1 else []).length)).map fun z => (A [e] (if r.head? = some 43 \/ r.head? = some 45 then r.take 1 else []) z.1, z.2)
        else some (B, t.drop p3)
      | [] => some (B, [])) : Option (List Nat × List Nat)).map (·.2) = (numE t p3).map (t.drop ·) := by
  cases hb : t[p3]? with
  | none =>
    have e : numE t p3 = some p3 := by
      unfold numE;rw [hb, if_neg (by rintro (z | z) <;> cases z)]
    rw [e, drop_nil hb];show some [] = some (t.drop p3);rw [drop_nil hb]
  | some b =>
    rw [drop_cons hb];show ((if b = 101 \/ b = 69 then _ else some (B, b :: t.drop (p3 + 1)) : Option (List Nat × List Nat)).map (·.2)) = _;by_cases c : b = 101 \/ b = 69
    · have ec : t[p3]? = some 101 \/ t[p3]? = some 69 := c.elim (fun z => .inl (by rw [hb, z])) fun z => .inr (by rw [hb, z])
      rw [if_pos c, head_drop]
      have e : numE t p3 = if isd (nb t (if t[p3 + 1]? = some 43 \/ t[p3 + 1]? = some 45 then p3 + 2 else p3 + 1)) = true then some (run Sv20.digit t (if t[p3 + 1]? = some 43 \/ t[p3 + 1]? = some 45 then p3 + 2 else p3 + 1)) else none := by
        unfold numE;rw [if_pos ec]
      rw [e]
      have go : ∀ (q : Nat) (C : List Nat -> List Nat), ((Sv20.digits (t.drop q)).map fun z => (C z.1, z.2)).map (·.2) = (if isd (nb t q) = true then some (run Sv20.digit t q) else none).map (t.drop ·) := fun q C => by
        cases hq : isd (nb t q) with
        | true => rw [dig_yes hq, if_pos rfl]; rfl
        | false => rw [dig_no hq, if_neg Bool.false_ne_true]; rfl
      by_cases c2 : t[p3 + 1]? = some 43 \/ t[p3 + 1]? = some 45
      · rw [if_pos c2, if_pos c2]
        have ht : ((t.drop (p3 + 1)).take 1).length = 1 := by
          rw [List.length_take, List.length_drop]
          have : p3 + 1 < t.length := by
            rcases c2 with z | z <;> exact (List.getElem?_eq_some_iff.mp z).1
          omega
        rw [ht, List.drop_drop];exact go (p3 + 1 + 1) _
      · rw [if_neg c2, if_neg c2];exact go (p3 + 1) _
    · rw [if_neg c]
      have e : numE t p3 = some p3 := by
        unfold numE;rw [hb, if_neg (by rintro (z | z) <;> exact c (by simp at z; omega))]
      rw [e];show some (b :: t.drop (p3 + 1)) = some (t.drop p3);rw [drop_cons hb]
def zero0 (t : List Nat) (p : Nat) : Prop := t[num1 t p]? = some 48 /\ isd (nb t (num1 t p + 1)) = true
theorem map2_bind {α : Type} (o : Option α) (f : α -> Option (List Nat × List Nat)) : ((o.bind f).map (·.2)) = o.bind fun x => (f x).map (·.2) := by cases o <;> rfl
theorem num_good {t : List Nat} {p : Nat} (h : ¬ zero0 t p) : (Sv20.number (t.drop p)).map (·.2) = (numP t p).map (t.drop ·) := by
  rw [numP_is]
  have e1 : (t.drop p).drop (if (t.drop p).head? = some 45 then [45] else [] : List Nat).length = t.drop (num1 t p) := by
    unfold num1;rw [head_drop, List.drop_drop];by_cases c : t[p]? = some 45
    · rw [if_pos c, if_pos c]; rfl
    · rw [if_neg c, if_neg c]; rfl
  unfold Sv20.number;show ((Sv20.digits ((t.drop p).drop (if (t.drop p).head? = some 45 then [45] else [] : List Nat).length)).bind _).map _ = _;rw [e1];cases hd : isd (nb t (num1 t p)) with
  | false =>
    have n48 : ¬ t[num1 t p]? = some 48 := fun z => by rw [J0 z] at hd; cases hd
    have : numI t (num1 t p) = none := by
      unfold numI;rw [if_neg n48, hd, if_neg Bool.false_ne_true]
    rw [dig_no hd, this];rfl
  | true =>
    obtain ⟨b, hb, hdb⟩ := isd_get hd
    have hI : numI t (num1 t p) = some (run Sv20.digit t (num1 t p)) := by
      unfold numI;by_cases c : t[num1 t p]? = some 48
      · rw [if_pos c]
        have hn : isd (nb t (num1 t p + 1)) = false := by
          cases hq : isd (nb t (num1 t p + 1)) with
          | false => rfl
          | true => exact absurd ⟨c, hq⟩ h
        have e := run_step c (q := Sv20.digit) (by decide)
        have e2 : run Sv20.digit t (num1 t p + 1) = num1 t p + 1 := by
          cases hy : t[num1 t p + 1]? with
          | none => exact run_end hy
          | some y => exact run_stop hy (by rw [J0 hy] at hn; exact hn)
        rw [<- e, e2]
      · rw [if_neg c, hd, if_pos rfl]
    have nz : ¬ (1 < ((t.drop (num1 t p)).takeWhile Sv20.digit).length /\ ((t.drop (num1 t p)).takeWhile Sv20.digit).head? = some 48) := by
      rintro ⟨z1, z2⟩;rw [drop_cons hb, List.takeWhile_cons, if_pos hdb] at z1 z2;have eb : b = 48 := Option.some.inj z2;subst eb;rw [List.length_cons] at z1;refine h ⟨hb, ?_⟩;cases hy : t[num1 t p + 1]? with
      | none => rw [drop_nil hy] at z1; simp at z1
      | some y =>
        rw [J0 hy];cases hq : Sv20.digit y with
        | true => rfl
        | false =>
          rw [drop_cons hy, List.takeWhile_cons, if_neg (by rw [hq]; decide)] at z1;simp at z1
    rw [dig_yes hd, hI];show (if 1 < ((t.drop (num1 t p)).takeWhile Sv20.digit).length /\ ((t.drop (num1 t p)).takeWhile Sv20.digit).head? = some 48 then none else _ : Option (List Nat × List Nat)).map (·.2) = (numF t (run Sv20.digit t (num1 t p))).map (t.drop ·);rw [if_neg nz];generalize run Sv20.digit t (num1 t p) = p2;generalize (t.drop (num1 t p)).takeWhile Sv20.digit = D;generalize (if (t.drop p).head? = some 45 then [45] else [] : List Nat) = M;unfold numF;rw [map2_bind]
    have fr : ((match t.drop p2 with
        | 46 :: r => (Sv20.digits r).map fun y => (46 :: y.1, y.2)
        | r => some ([], r)) : Option (List Nat × List Nat)) = if t[p2]? = some 46 then (Sv20.digits (t.drop (p2 + 1))).map (fun y => (46 :: y.1, y.2)) else some ([], t.drop p2) := by
      by_cases c : t[p2]? = some 46
      · rw [if_pos c, drop_cons c]; rfl
      · rw [if_neg c]
        split
        · rename_i r e
          exact absurd (by rw [<- head_drop, e]; rfl) c
        · rfl
    show @Option.bind (List Nat × List Nat) (List Nat) (match t.drop p2 with
        | 46 :: r => (Sv20.digits r).map fun y => (46 :: y.1, y.2)
        | r => some ([], r)) _ = _
    rw [fr];by_cases c : t[p2]? = some 46
    · rw [if_pos c, if_pos c];cases hq : isd (nb t (p2 + 1)) with
      | false => rw [dig_no hq, if_neg Bool.false_ne_true]; rfl
      | true =>
        rw [dig_yes hq, if_pos rfl];exact exp_spec t (run Sv20.digit t (p2 + 1)) (fun e s z => M ++ D ++ (46 :: (t.drop (p2 + 1)).takeWhile Sv20.digit) ++ (e.headD 0 :: (s ++ z))) _
    · rw [if_neg c, if_neg c];exact exp_spec t p2 (fun e s z => M ++ D ++ [] ++ (e.headD 0 :: (s ++ z))) _
theorem num_bad {t : List Nat} {p : Nat} (h : zero0 t p) : Sv20.number (t.drop p) = none /\ numP t p = some (num1 t p + 1) := by
  obtain ⟨h1, h2⟩ := h;obtain ⟨y, hy, hdy⟩ := isd_get h2;constructor
  · have e1 : (t.drop p).drop (if (t.drop p).head? = some 45 then [45] else [] : List Nat).length = t.drop (num1 t p) := by
      unfold num1;rw [head_drop, List.drop_drop];by_cases c : t[p]? = some 45
      · rw [if_pos c, if_pos c]; rfl
      · rw [if_neg c, if_neg c]; rfl
    have hd : isd (nb t (num1 t p)) = true := by rw [J0 h1]; rfl
    unfold Sv20.number;show (Sv20.digits ((t.drop p).drop (if (t.drop p).head? = some 45 then [45] else [] : List Nat).length)).bind _ = _;rw [e1, dig_yes hd];show (if 1 < ((t.drop (num1 t p)).takeWhile Sv20.digit).length /\ ((t.drop (num1 t p)).takeWhile Sv20.digit).head? = some 48 then none else _) = none;rw [if_pos];rw [drop_cons h1, drop_cons hy, List.takeWhile_cons, if_pos (by decide), List.takeWhile_cons, if_pos hdy];exact ⟨by simp, rfl⟩
  · rw [numP_is];have e : numI t (num1 t p) = some (num1 t p + 1) := by unfold numI; rw [if_pos h1]
    rw [e];show numF t (num1 t p + 1) = _
    have n : ∀ k, Sv20.digit k = false -> ¬ t[num1 t p + 1]? = some k := fun k hk z => by
      rw [hy] at z;cases z;rw [hk] at hdy; cases hdy
    unfold numF;rw [if_neg (n 46 (by decide))];show numE t (num1 t p + 1) = _;unfold numE;rw [if_neg (fun z => z.elim (n 101 (by decide)) (n 69 (by decide)))]
theorem num1_in {t : List Nat} {p : Nat} : p <= num1 t p := by unfold num1; split <;> omega
theorem numE_in {t : List Nat} {p p' : Nat} (hp : p <= t.length) (h : numE t p = some p') : p <= p' /\ p' <= t.length := by
  unfold numE at h;by_cases c : t[p]? = some 101 \/ t[p]? = some 69
  · rw [if_pos c] at h;generalize hq : (if t[p + 1]? = some 43 \/ t[p + 1]? = some 45 then p + 2 else p + 1) = q at h;have hqp : p < q := by rw [<- hq]; split <;> omega
    cases hd : isd (nb t q) with
    | false => rw [hd, if_neg Bool.false_ne_true] at h; cases h
    | true =>
      rw [hd, if_pos rfl] at h;have := run_lt hd;cases h;omega
  · rw [if_neg c] at h; cases h; omega
theorem num_in {t : List Nat} {p p' : Nat} (h : numP t p = some p') : p < p' /\ p' <= t.length := by
  rw [numP_is] at h;cases hI : numI t (num1 t p) with
  | none => rw [hI] at h; cases h
  | some p2 =>
    rw [hI] at h;have h : numF t p2 = some p' := h;have i1 := num1_in (t := t) (p := p)
    have i2 : num1 t p < p2 /\ p2 <= t.length := by
      unfold numI at hI;by_cases c : t[num1 t p]? = some 48
      · rw [if_pos c] at hI; cases hI; have := (List.getElem?_eq_some_iff.mp c).1; omega
      · rw [if_neg c] at hI;cases hd : isd (nb t (num1 t p)) with
        | false => rw [hd, if_neg Bool.false_ne_true] at hI; cases hI
        | true => rw [hd, if_pos rfl] at hI; cases hI; exact run_lt hd
    unfold numF at h;by_cases c : t[p2]? = some 46
    · rw [if_pos c] at h;cases hd : isd (nb t (p2 + 1)) with
      | false => rw [hd, if_neg Bool.false_ne_true] at h; cases h
      | true =>
        rw [hd, if_pos rfl] at h;have := run_lt hd;have := numE_in this.2 h;omega
    · rw [if_neg c] at h;have := numE_in i2.2 h;omega
section
variable {P : Program} {w : World} {K : PySem.W.Frag} {mg : Str -> Option Value} {base : Heap} {CR CN aB aL aE : Addr} {as : List Addr}
abbrev tPass (K : PySem.W.Frag) (CR : Addr) (z : Int) : TE := tMeth CR "passes" (Y0 K CR) [] E0 (tVar 0) (Q0 (tC (.int z)) tNil)
abbrev tDig (K : PySem.W.Frag) (CR CN : Addr) (E : XK) : TE := tMeth CR "read_digits" (spDigits K CR CN) [] E (tVar 0) tNil
theorem sc12 : z7 ["self", "begin"] ["self"] (y3 (inClass (top 24) 13)) := ⟨rfl, rfl, rfl, by decide +kernel, rfl, by decide +kernel, by decide +kernel⟩
theorem ok_num {f : Addr} {fd : FuncData} (F : Fun K "read_number" "Reader.read_number" (inClass (top 24) 13) f fd) (T : Txt K mg CR CN aB) (C2 : z9 P w K mg base CX0 CR "passes" 2 ["self", "byte"] (Y0 K CR))
    (CD : z9 P w K mg base (CXn P w CN) CR "read_digits" 2 ["self"] (spDigits K CR CN)) : FnOk P w K mg base (CXn P w CN) 3 f fd ["self"] (spNum K CR CN) := by
  refine okx F sc12 (fun vs H Q E h => ?_) (fun cdv A outer s H vs Q E hr h => ?_)
  · obtain ⟨dx, r, a, t, p, c, rfl, _⟩ := h;rfl
  · obtain ⟨dx, r, a, t, p, c, rfl, R, q1, q2⟩ := h
    refine ⟨_, w4 (z6 (i := 1) sc12.nd rfl (Or.inl rfl) (k7 (pv 0) rfl)) (w4 (k8 (pm C2 j0 T.cl hr (pv 0) (w6 (v7 (i := 45) rfl T.ord rfl rfl) w9)))
      (w4 (j7 (Q9 (x5 (pm C2 j0 T.cl hr (pv 0) (w6 (v7 (i := 48) rfl T.ord rfl rfl) w9)))) (w8 (k8 (pm0 CD Q1 T.cl hr (pv 0)))) z0)
      (w4 (j7 (x5 (pm C2 j0 T.cl hr (pv 0) (w6 (v7 (i := 46) rfl T.ord rfl rfl) w9))) (w8 (k8 (pm0 CD Q1 T.cl hr (pv 0)))) z0)
      (w4 (j7 (PW.pt (pw_or (x5 (pm C2 j0 T.cl hr (pv 0) (w6 (v7 (i := 101) rfl T.ord rfl rfl) w9))) (pw_or1 (x5 (pm C2 j0 T.cl hr (pv 0) (w6 (v7 (i := 69) rfl T.ord rfl rfl) w9))))))
        (w4 (j7 (Q9 (x5 (pm C2 j0 T.cl hr (pv 0) (w6 (v7 (i := 43) rfl T.ord rfl rfl) w9)))) (w8 (k8 (pm C2 j0 T.cl hr (pv 0) (w6 (v7 (i := 45) rfl T.ord rfl rfl) w9)))) z0)
        (w8 (k8 (pm0 CD Q1 T.cl hr (pv 0))))) z0)
      (w8 (y6 (Y7 sl_list (k7 (pv 0) rfl) (Q5 (pv 1)) (Q5 (k7 (pv 0) rfl))))))))), ?_⟩
    refine ⟨_, rfl, r, CR, dx, _, _, rfl, R.at_, T.cl, T.nP, rfl, ?_⟩
    have dig : ∀ (q : Nat) (H1 : Hp) (D : Ends) (σ : L2.St), σ = [some (.ref r), some (.int (p : Int))] -> Rat K CR dx r a t q c H1 -> (isd (nb t q) = true -> ∀ H', But r H1 H' -> Rat K CR dx r a t (run Sv20.digit t q) c H' -> D.nx σ H') -> (isd (nb t q) = false -> ∀ H', E (.ref CN) none H') -> W9 (tDig K CR CN E) D σ H1 := by
      rintro q H1 D σ rfl R1 k1 k2;exact ⟨_, rfl, r, dx, _, rfl, R1.at_, rfl, dx, r, a, t, q, c, rfl, R1, k1, k2⟩
    have expo : ∀ (RT : TS) (D : Ends) (q : Nat) (H1 : Hp), Rat K CR dx r a t q c H1 -> But r H H1 -> (∀ p', numE t q = some p' -> ∀ H', But r H H' -> Rat K CR dx r a t p' c H' -> RT D [some (.ref r), some (.int (p : Int))] H') -> (numE t q = none -> ∀ H', E (.ref CN) none H') ->
        tSeq (tIfS (tOr (tB (tPass K CR 101)) (tB (tPass K CR 69))) (tSeq (tIfS (tNot (tB (tPass K CR 43))) (W9 (tPass K CR 45)) tNext) (W9 (tDig K CR CN E))) tNext) RT D [some (.ref r), some (.int (p : Int))] H1 := by
      intro RT D q H1 R1 b1 k1 k2
      have inner : (t[q]? = some 101 \/ t[q]? = some 69) -> ∀ H2, But r H1 H2 -> Rat K CR dx r a t (q + 1) c H2 -> tSeq (tIfS (tNot (tB (tPass K CR 43))) (W9 (tPass K CR 45)) tNext) (W9 (tDig K CR CN E)) { D with nx := RT D } [some (.ref r), some (.int (p : Int))] H2 := by
        intro hc H2 b2 R2;have en : numE t q = if isd (nb t (if t[q + 1]? = some 43 \/ t[q + 1]? = some 45 then q + 2 else q + 1)) = true then some (run Sv20.digit t (if t[q + 1]? = some 43 \/ t[q + 1]? = some 45 then q + 2 else q + 1)) else none := by unfold numE; rw [if_pos hc]
        have last : ∀ (q5 : Nat) (H3 : Hp), (if t[q + 1]? = some 43 \/ t[q + 1]? = some 45 then q + 2 else q + 1) = q5 -> But r H2 H3 -> Rat K CR dx r a t q5 c H3 -> W9 (tDig K CR CN E) { D with nx := RT D } [some (.ref r), some (.int (p : Int))] H3 := by
          intro q5 H3 e5 b3 R3;rw [e5] at en;refine dig q5 H3 _ _ rfl R3 (fun hd H' b4 R4 => ?_) fun hd => k2 ?_
          · rw [hd, if_pos rfl] at en;exact k1 _ en H' (((b1.trans b2).trans b3).trans b4) R4
          · rw [hd, if_neg Bool.false_ne_true] at en;exact en
        refine ⟨_, rfl, r, dx, _, rfl, R2.at_, rfl, dx, r, a, t, q + 1, c, 43, rfl, by decide, R2, fun e H3 b3 R3 => ?_, fun e => ?_⟩
        · exact ⟨_, rfl, iteF (last (q + 2) H3 (by rw [if_pos (.inl (v9.mp e))]) b3 R3)⟩
        · have e' : ¬ t[q + 1]? = some 43 := fun y => e (v9.mpr y)
          refine ⟨_, rfl, iteT ?_⟩;refine ⟨_, rfl, r, dx, _, rfl, R2.at_, rfl, dx, r, a, t, q + 1, c, 45, rfl, by decide, R2, fun e2 H3 b3 R3 => ?_, fun e2 => ?_⟩
          · exact last (q + 2) H3 (by rw [if_pos (.inr (v9.mp e2))]) b3 R3
          · exact last (q + 1) H2 (by rw [if_neg (fun z => z.elim e' fun y => e2 (v9.mpr y))]) But.refl R2
      have none_ : ¬ (t[q]? = some 101 \/ t[q]? = some 69) -> RT D [some (.ref r), some (.int (p : Int))] H1 := fun hc => k1 q (by unfold numE; rw [if_neg hc]) H1 b1 R1
      refine ⟨_, rfl, r, dx, _, rfl, R1.at_, rfl, dx, r, a, t, q, c, 101, rfl, by decide, R1, fun e H2 b2 R2 => ?_, fun e => ?_⟩
      · exact ⟨_, rfl, iteT (iteT (inner (.inl (v9.mp e)) H2 b2 R2))⟩
      · refine ⟨_, rfl, iteF ?_⟩;refine ⟨_, rfl, r, dx, _, rfl, R1.at_, rfl, dx, r, a, t, q, c, 69, rfl, by decide, R1, fun e2 H2 b2 R2 => ?_, fun e2 => ?_⟩
        · exact ⟨_, rfl, iteT (inner (.inr (v9.mp e2)) H2 b2 R2)⟩
        · exact ⟨_, rfl, iteF (none_ fun z => z.elim (fun y => e (v9.mpr y)) fun y => e2 (v9.mpr y))⟩
    have frac : ∀ (RT : TS) (D : Ends) (q : Nat) (H1 : Hp), Rat K CR dx r a t q c H1 -> But r H H1 -> (∀ p', numF t q = some p' -> ∀ H', But r H H' -> Rat K CR dx r a t p' c H' -> RT D [some (.ref r), some (.int (p : Int))] H') -> (numF t q = none -> ∀ H', E (.ref CN) none H') ->
        tSeq (tIfS (tB (tPass K CR 46)) (W9 (tDig K CR CN E)) tNext) (tSeq (tIfS (tOr (tB (tPass K CR 101)) (tB (tPass K CR 69))) (tSeq (tIfS (tNot (tB (tPass K CR 43))) (W9 (tPass K CR 45)) tNext) (W9 (tDig K CR CN E))) tNext) RT) D [some (.ref r), some (.int (p : Int))] H1 := by
      intro RT D q H1 R1 b1 k1 k2;refine ⟨_, rfl, r, dx, _, rfl, R1.at_, rfl, dx, r, a, t, q, c, 46, rfl, by decide, R1, fun e H2 b2 R2 => ?_, fun e => ?_⟩
      · have en : numF t q = (if isd (nb t (q + 1)) = true then some (run Sv20.digit t (q + 1)) else none).bind (numE t) := by unfold numF; rw [if_pos (v9.mp e)]
        refine ⟨_, rfl, iteT ?_⟩;refine dig (q + 1) H2 _ _ rfl R2 (fun hd H3 b3 R3 => ?_) fun hd => k2 (by rw [en, hd, if_neg Bool.false_ne_true]; rfl)
        rw [hd, if_pos rfl] at en;exact expo RT D _ H3 R3 ((b1.trans b2).trans b3) (fun p' h => k1 p' (en.trans h)) fun h => k2 (en.trans h)
      · have en : numF t q = numE t q := by unfold numF; rw [if_neg (fun y => e (v9.mpr y))]; rfl
        exact ⟨_, rfl, iteF (expo RT D q H1 R1 b1 (fun p' h => k1 p' (en.trans h)) fun h => k2 (en.trans h))⟩
    have int_ : ∀ (RT : TS) (D : Ends) (H1 : Hp), Rat K CR dx r a t (num1 t p) c H1 -> But r H H1 -> (∀ p', numP t p = some p' -> ∀ H', But r H H' -> Rat K CR dx r a t p' c H' -> RT D [some (.ref r), some (.int (p : Int))] H') -> tSeq (tIfS (tNot (tB (tPass K CR 48))) (W9 (tDig K CR CN E)) tNext) (tSeq (tIfS (tB (tPass K CR 46)) (W9 (tDig K CR CN E)) tNext) (tSeq (tIfS (tOr (tB (tPass K CR 101)) (tB (tPass K CR 69))) (tSeq (tIfS (tNot (tB (tPass K CR 43))) (W9 (tPass K CR 45)) tNext) (W9 (tDig K CR CN E))) tNext) RT)) D [some (.ref r), some (.int (p : Int))] H1 := by
      intro RT D H1 R1 b1 q1;have en := numP_is t p;refine ⟨_, rfl, r, dx, _, rfl, R1.at_, rfl, dx, r, a, t, num1 t p, c, 48, rfl, by decide, R1, fun e H2 b2 R2 => ?_, fun e => ?_⟩
      · have ei : numI t (num1 t p) = some (num1 t p + 1) := by unfold numI; rw [if_pos (v9.mp e)]
        rw [ei] at en;exact ⟨_, rfl, iteF (frac RT D _ H2 R2 (b1.trans b2) (fun p' h => q1 p' (en.trans h)) fun h => q2 (en.trans h))⟩
      · have ei : numI t (num1 t p) = if isd (nb t (num1 t p)) = true then some (run Sv20.digit t (num1 t p)) else none := by unfold numI; rw [if_neg (fun y => e (v9.mpr y))]
        refine ⟨_, rfl, iteT ?_⟩;refine dig (num1 t p) H1 _ _ rfl R1 (fun hd H3 b3 R3 => ?_) fun hd => q2 (by rw [en, ei, hd, if_neg Bool.false_ne_true]; rfl)
        rw [hd, if_pos rfl] at ei;rw [ei] at en;exact frac RT D _ H3 R3 (b1.trans b3) (fun p' h => q1 p' (en.trans h)) fun h => q2 (en.trans h)
    have fin : ∀ p', numP t p = some p' -> ∀ H', But r H H' -> Rat K CR dx r a t p' c H' -> tRet (tSl (rSlL K) (tFld K (tVar 0) "text") (tPart (tVar 1)) (tPart (tFld K (tVar 0) "place"))) { nx := fun _ H' => Q .non H', rt := Q } [some (.ref r), some (.int (p : Int))] H' := by
      intro p' en H1 b1 R1;obtain ⟨n1, n2⟩ := num_in en;refine ⟨_, rfl, r, CR, dx, _, _, rfl, R1.at_, T.cl, T.nT, rfl, _, rfl, _, rfl, _, rfl, r, CR, dx, _, _, rfl, R1.at_, T.cl, T.nP, rfl, _, rfl, a, _, rfl, R1.txt, fun l hl => ?_⟩;have nel : r ≠ l := y4 R1.at_ hl
      have hl0 : H l = none := by
        cases q : H l with
        | none => rfl
        | some o => rw [b1 l o q (Ne.symm nel)] at hl; cases hl
      refine q1 p' en l _ (fun b' o h n' => by rw [y9 (fun y => by rw [y, hl0] at h; cases h)]; exact b1 b' o h n') hl0 ?_ (R1.put (fun b' o h n' => by rw [y9 (y4 h hl)]; exact h) (by rw [y9 nel]; exact R1.at_));rw [y1, cut_nat (by omega) n2]
    refine ⟨_, rfl, r, dx, _, rfl, R.at_, rfl, dx, r, a, t, p, c, 45, rfl, by decide, R, fun e H2 b2 R2 => ?_, fun e => ?_⟩
    · have e1 : num1 t p = p + 1 := by unfold num1; rw [if_pos (v9.mp e)]
      exact int_ _ _ H2 (by rw [e1]; exact R2) b2 fin
    · have e1 : num1 t p = p := by unfold num1; rw [if_neg (fun y => e (v9.mpr y))]
      exact int_ _ _ H (by rw [e1]; exact R) But.refl fin
end
end J
namespace J
open PySem PySem.Spec PyProof.Rows L2 G Ex
open Sv20 (Json value items members valuesIn skip)
theorem W8 (t : List Nat) (p : Nat) : skip (t.drop p) = t.drop (sk t p) := (drop_run Sv20.blank t p).symm
theorem sk_in {t : List Nat} {p : Nat} (h : p <= t.length) : p <= sk t p /\ sk t p <= t.length := run_in Sv20.blank h
theorem dropWhile_idem (q : Nat -> Bool) : ∀ l : List Nat, (l.dropWhile q).dropWhile q = l.dropWhile q
  | [] => rfl
  | x :: l => by
    by_cases h : q x = true
    · rw [List.dropWhile_cons, if_pos h]; exact dropWhile_idem q l
    · rw [List.dropWhile_cons, if_neg h, List.dropWhile_cons, if_neg h]
theorem skip_skip (b : List Nat) : skip (skip b) = skip b := dropWhile_idem Sv20.blank b
theorem drop_inj {t : List Nat} {p q : Nat} (hp : p <= t.length) (hq : q <= t.length) (h : t.drop p = t.drop q) : p = q := by
  have := congrArg List.length h;rw [List.length_drop, List.length_drop] at this;omega
theorem sk_sk {t : List Nat} {p : Nat} (hp : p <= t.length) : sk t (sk t p) = sk t p := by
  have h := (sk_in hp).2;exact drop_inj (sk_in h).2 h (by rw [<- W8, <- W8, skip_skip])
theorem val_str {t : List Nat} {q f d : Nat} (h : t[q]? = some 34) : value (f + 1) d (t.drop q) = (Sv20.string ((t.drop (q + 1)).length + 1) (t.drop (q + 1))).map fun x => (Json.string x.1, x.2) := by
  rw [drop_cons h, value]
def arrS (f d : Nat) (t : List Nat) (q : Nat) : Option (List Json × List Nat) := if t[sk t (q + 1)]? = some 93 then some ([], t.drop (sk t (q + 1) + 1)) else items f d (t.drop (sk t (q + 1)))
def objS (f d : Nat) (t : List Nat) (q : Nat) : Option (List (List Nat × List Nat × Json) × List Nat) := if t[sk t (q + 1)]? = some 125 then some ([], t.drop (sk t (q + 1) + 1)) else (members f d (t.drop (sk t (q + 1)))).bind fun x => if (x.1.map fun m => m.1).Nodup then some x else none
theorem val_arr {t : List Nat} {q f d : Nat} (h : t[q]? = some 91) : value (f + 1) d (t.drop q) = if d = 0 then none else (arrS f (d - 1) t q).map fun x => (Json.array x.1, x.2) := by
  rw [drop_cons h, value];by_cases hd : d = 0
  · rw [if_pos hd, if_pos hd]
  · rw [if_neg hd, if_neg hd, W8];unfold arrS;generalize sk t (q + 1) = s;by_cases c : t[s]? = some 93
    · rw [if_pos c, drop_cons c]; rfl
    · rw [if_neg c]
      split
      · rename_i e; exact absurd (by rw [<- head_drop, e]; rfl) c
      · rfl
theorem val_obj {t : List Nat} {q f d : Nat} (h : t[q]? = some 123) : value (f + 1) d (t.drop q) = if d = 0 then none else (objS f (d - 1) t q).map fun x => (Json.object x.1, x.2) := by
  rw [drop_cons h, value];by_cases hd : d = 0
  · rw [if_pos hd, if_pos hd]
  · rw [if_neg hd, if_neg hd, W8];unfold objS;generalize sk t (q + 1) = s;by_cases c : t[s]? = some 125
    · rw [if_pos c, drop_cons c]; rfl
    · rw [if_neg c]
      split
      · rename_i e; exact absurd (by rw [<- head_drop, e]; rfl) c
      · cases members f (d - 1) (t.drop s) with
        | none => rfl
        | some x =>
          show (if (x.1.map fun m => m.1).Nodup then some (Json.object x.1, x.2) else none) = (if (x.1.map fun m => m.1).Nodup then some x else none).map _
          split <;> rfl
theorem val_else {t : List Nat} {q f d : Nat} (h1 : ¬ t[q]? = some 34) (h2 : ¬ t[q]? = some 91) (h3 : ¬ t[q]? = some 123) : value (f + 1) d (t.drop q) =
    match ([Sv20.ascii "null", Sv20.ascii "true", Sv20.ascii "false"] : List (List Nat)).find? fun w => (t.drop q).take w.length == w with
      | some w => some (Json.word w, (t.drop q).drop w.length)
      | none => (Sv20.number (t.drop q)).map fun x => (Json.number x.1, x.2) := by
  conv => lhs; unfold value
  split
  · rename_i e; exact absurd (by rw [<- head_drop, e]; rfl) h1
  · rename_i e; exact absurd (by rw [<- head_drop, e]; rfl) h2
  · rename_i e; exact absurd (by rw [<- head_drop, e]; rfl) h3
  · rfl
theorem find_word {t : List Nat} {q : Nat} {w : List Nat} (h : ([Sv20.ascii "null", Sv20.ascii "true", Sv20.ascii "false"] : List (List Nat)).find? (fun w => (t.drop q).take w.length == w) = some w) : w ∈ ([Sv20.ascii "null", Sv20.ascii "true", Sv20.ascii "false"] : List (List Nat)) /\ (t.drop q).take w.length = w :=
  ⟨List.mem_of_find?_eq_some h, by have := List.find?_some h; exact eq_of_beq this⟩
theorem head_take {t w : List Nat} {q c : Nat} {r : List Nat} (e : w = c :: r) (h : (t.drop q).take w.length = w) : t[q]? = some c := by
  subst e;rw [<- head_drop];cases hd : t.drop q with
  | nil => rw [hd] at h; simp at h
  | cons x y => rw [hd] at h; rw [List.length_cons, List.take_succ_cons] at h; rw [(List.cons.inj h).1]; rfl
theorem asc : Sv20.ascii "null" = [110, 117, 108, 108] /\ Sv20.ascii "true" = [116, 114, 117, 101] /\ Sv20.ascii "false" = [102, 97, 108, 115, 101] := by decide
theorem num_none {t : List Nat} {q : Nat} (h1 : ¬ t[q]? = some 45) (h2 : isd (nb t q) = false) : Sv20.number (t.drop q) = none := by
  have e1 : num1 t q = q := by unfold num1; rw [if_neg h1]
  have n48 : ¬ t[q]? = some 48 := fun z => by rw [J0 z] at h2; cases h2
  have nz : ¬ zero0 t q := fun z => n48 (by have := z.1; rw [e1] at this; exact this)
  have g := num_good nz
  have e2 : numP t q = none := by
    rw [numP_is, e1];have : numI t q = none := by unfold numI; rw [if_neg n48, h2, if_neg Bool.false_ne_true]
    rw [this]; rfl
  rw [e2] at g;cases hn : Sv20.number (t.drop q) with
  | none => rfl
  | some x => rw [hn] at g; cases g
theorem val_word {t : List Nat} {q f d c : Nat} {w r : List Nat} (hc : t[q]? = some c) (hw : w = c :: r) (hm : w ∈ ([Sv20.ascii "null", Sv20.ascii "true", Sv20.ascii "false"] : List (List Nat))) (hc2 : c = 110 \/ c = 116 \/ c = 102) :
    value (f + 1) d (t.drop q) = if (t.drop q).take w.length = w then some (Json.word w, t.drop (q + w.length)) else none := by
  have ne : ∀ k, k ≠ c -> ¬ t[q]? = some k := fun k hk z => by rw [hc] at z; cases z; exact hk rfl
  rw [val_else (ne 34 (by omega)) (ne 91 (by omega)) (ne 123 (by omega))]
  have dig : isd (nb t q) = false := by
    rw [J0 hc];rcases hc2 with rfl | rfl | rfl <;> rfl
  have uniq : ∀ w', w' ∈ ([Sv20.ascii "null", Sv20.ascii "true", Sv20.ascii "false"] : List (List Nat)) -> (t.drop q).take w'.length = w' -> w' = w := by
    intro w' hm' he;rw [asc.1, asc.2.1, asc.2.2] at hm hm';simp only [List.mem_cons, List.not_mem_nil, or_false] at hm hm'
    have h0 : ∀ {c' : Nat} {r' : List Nat}, w' = c' :: r' -> c' = c := fun {c' r'} e => by
      have := head_take e he;rw [hc] at this;exact (Option.some.inj this).symm
    rcases hm with rfl | rfl | rfl <;> rcases hm' with rfl | rfl | rfl <;> first | rfl | (have e1 := h0 rfl; have e2 := (List.cons.inj hw).1; omega)
  cases hf : ([Sv20.ascii "null", Sv20.ascii "true", Sv20.ascii "false"] : List (List Nat)).find? (fun w => (t.drop q).take w.length == w) with
  | some w' =>
    obtain ⟨m1, m2⟩ := find_word hf;have e := uniq w' m1 m2;subst e;rw [if_pos m2];show some (Json.word w', (t.drop q).drop w'.length) = _;rw [List.drop_drop]
  | none =>
    rw [num_none (ne 45 (by omega)) dig];rw [if_neg]
    · rfl
    · intro z;have := List.find?_eq_none.mp hf w hm;exact this (by rw [z]; exact beq_self_eq_true w)
theorem val_num {t : List Nat} {q f d : Nat} (h : ∀ k, k = 34 \/ k = 91 \/ k = 123 \/ k = 110 \/ k = 116 \/ k = 102 -> ¬ t[q]? = some k) : value (f + 1) d (t.drop q) = (Sv20.number (t.drop q)).map fun x => (Json.number x.1, x.2) := by
  rw [val_else (h 34 (by omega)) (h 91 (by omega)) (h 123 (by omega))];cases hf : ([Sv20.ascii "null", Sv20.ascii "true", Sv20.ascii "false"] : List (List Nat)).find? (fun w => (t.drop q).take w.length == w) with
  | none => rfl
  | some w =>
    obtain ⟨m1, m2⟩ := find_word hf;rw [asc.1, asc.2.1, asc.2.2] at m1;simp only [List.mem_cons, List.not_mem_nil, or_false] at m1;rcases m1 with rfl | rfl | rfl
    · exact absurd (head_take rfl m2) (h 110 (by omega))
    · exact absurd (head_take rfl m2) (h 116 (by omega))
    · exact absurd (head_take rfl m2) (h 102 (by omega))
theorem items_none {f d : Nat} {b : List Nat} (h : value f d b = none) : items (f + 1) d b = none := by rw [items, h]; rfl
theorem items_some {f d : Nat} {b : List Nat} {x : Json} {rest t : List Nat} {p : Nat} (h : value f d b = some (x, rest)) (hp : t.drop p = skip rest) : items (f + 1) d b =
    if t[p]? = some 44 then (items f d (t.drop (sk t (p + 1)))).map (fun y => (x :: y.1, y.2)) else if t[p]? = some 93 then some ([x], t.drop (p + 1)) else none := by
  rw [items, h];show (match skip rest with | 44 :: r => _ | 93 :: r => _ | _ => none) = _;rw [<- hp];by_cases c1 : t[p]? = some 44
  · rw [if_pos c1, drop_cons c1];show (items f d (skip (t.drop (p + 1)))).map _ = _;rw [W8]
  · rw [if_neg c1];by_cases c2 : t[p]? = some 93
    · rw [if_pos c2, drop_cons c2]; rfl
    · rw [if_neg c2]
      split
      · rename_i e; exact absurd (by rw [<- head_drop, e]; rfl) c1
      · rename_i e; exact absurd (by rw [<- head_drop, e]; rfl) c2
      · rfl
abbrev Mem := List Nat × List Nat × Json
def memS (f d : Nat) (b : List Nat) : Option (Mem × List Nat) := match b with
  | 34 :: r => (Sv20.string (r.length + 1) r).bind fun n => match skip n.2 with
    | 58 :: t => (value f d (skip t)).map fun x => ((n.1, (skip t).take ((skip t).length - x.2.length), x.1), x.2)
    | _ => none
  | _ => none
theorem mem_none {f d : Nat} {b : List Nat} (h : memS f d b = none) : members (f + 1) d b = none := by
  unfold memS at h
  conv => lhs; unfold members
  split
  · rename_i r
    have h : ((Sv20.string (r.length + 1) r).bind fun n => match skip n.2 with
      | 58 :: t => (value f d (skip t)).map fun x => ((n.1, (skip t).take ((skip t).length - x.2.length), x.1), x.2)
      | _ => none) = none := h
    cases hs : Sv20.string (r.length + 1) r with
    | none => rfl
    | some n =>
      rw [hs] at h;show (match skip n.2 with | 58 :: t => _ | _ => none) = none
      have h : (match skip n.2 with
        | 58 :: t => (value f d (skip t)).map fun x => ((n.1, (skip t).take ((skip t).length - x.2.length), x.1), x.2)
        | _ => none) = none := h
      split
      · rename_i u e
        rw [e] at h;have h : ((value f d (skip u)).map fun x => ((n.1, (skip u).take ((skip u).length - x.2.length), x.1), x.2)) = none := h;cases hv : value f d (skip u) with
        | none => rfl
        | some x => rw [hv] at h; cases h
      · rfl
  · rfl
theorem mem_some {f d : Nat} {b rest t : List Nat} {m : Mem} {p : Nat} (h : memS f d b = some (m, rest)) (hp : t.drop p = skip rest) : members (f + 1) d b =
    if t[p]? = some 44 then (members f d (t.drop (sk t (p + 1)))).map (fun y => (m :: y.1, y.2)) else if t[p]? = some 125 then some ([m], t.drop (p + 1)) else none := by
  unfold memS at h
  conv => lhs; unfold members
  split
  · rename_i r
    have h : ((Sv20.string (r.length + 1) r).bind fun n => match skip n.2 with
      | 58 :: t => (value f d (skip t)).map fun x => ((n.1, (skip t).take ((skip t).length - x.2.length), x.1), x.2)
      | _ => none) = some (m, rest) := h
    cases hs : Sv20.string (r.length + 1) r with
    | none => rw [hs] at h; cases h
    | some n =>
      rw [hs] at h;show (match skip n.2 with | 58 :: t => _ | _ => none) = _
      have h : (match skip n.2 with
        | 58 :: t => (value f d (skip t)).map fun x => ((n.1, (skip t).take ((skip t).length - x.2.length), x.1), x.2)
        | _ => none) = some (m, rest) := h
      split
      · rename_i u e
        rw [e] at h;have h : ((value f d (skip u)).map fun x => ((n.1, (skip u).take ((skip u).length - x.2.length), x.1), x.2)) = some (m, rest) := h;cases hv : value f d (skip u) with
        | none => rw [hv] at h; cases h
        | some x =>
          rw [hv] at h;have e1 := Prod.mk.inj (Option.some.inj h);show (match skip x.2 with | 44 :: q => _ | 125 :: q => _ | _ => none) = _;have e2 : x.2 = rest := e1.2;have e3 : ((n.1, (skip u).take ((skip u).length - x.2.length), x.1) : Mem) = m := e1.1;rw [e3, e2, <- hp];by_cases c1 : t[p]? = some 44
          · rw [if_pos c1, drop_cons c1];show (members f d (skip (t.drop (p + 1)))).map _ = _;rw [W8]
          · rw [if_neg c1];by_cases c2 : t[p]? = some 125
            · rw [if_pos c2, drop_cons c2]; rfl
            · rw [if_neg c2]
              split
              · rename_i e'; exact absurd (by rw [<- head_drop, e']; rfl) c1
              · rename_i e'; exact absurd (by rw [<- head_drop, e']; rfl) c2
              · rfl
      · rename_i e
        split at h
        · rename_i u' e'; exact absurd e' (e u')
        · cases h
  · rename_i e
    split at h
    · rename_i r'; exact absurd rfl (e r')
    · cases h
theorem memS_at {t : List Nat} {s f d : Nat} (h : t[s]? = some 34) : memS f d (t.drop s) = (Sv20.string ((t.drop (s + 1)).length + 1) (t.drop (s + 1))).bind fun n => match skip n.2 with
    | 58 :: t => (value f d (skip t)).map fun x => ((n.1, (skip t).take ((skip t).length - x.2.length), x.1), x.2)
    | _ => none := by
  rw [drop_cons h]; rfl
theorem memS_no {t : List Nat} {s f d : Nat} (h : ¬ t[s]? = some 34) : memS f d (t.drop s) = none := by
  unfold memS
  split
  · rename_i e; exact absurd (by rw [<- head_drop, e]; rfl) h
  · rfl
end J
namespace J
open PySem PySem.Spec PyProof.Rows L2 G Ex
open Sv20 (Json value items members valuesIn skip)
theorem vi_array (k : Nat) (l : List Json) : valuesIn (k + 1) (.array l) = (l.map (valuesIn k)).sum + 1 := rfl
theorem vi_one {x : Json} (k : Nat) (h : (∃ b, x = .word b) \/ (∃ b, x = .number b) \/ ∃ b, x = .string b) : valuesIn k x = 1 := by
  rcases h with ⟨b, rfl⟩ | ⟨b, rfl⟩ | ⟨b, rfl⟩ <;> cases k <;> rfl
def kOf (k : List Nat) : List Key := k.map fun (n : Nat) => (Sum.inl (n : Int) : Key)
theorem kOf_kV (k : List Nat) : (kOf k).map kV = nv k := by
  unfold kOf nv;rw [List.map_map];rfl
theorem kOf_inj : ∀ {a b : List Nat}, kOf a = kOf b -> a = b
  | [], [], _ => rfl
  | [], _ :: _, h => by cases h
  | _ :: _, [], h => by cases h
  | x :: a, y :: b, h => by
    have h : (Sum.inl (x : Int) : Key) :: kOf a = Sum.inl (y : Int) :: kOf b := h;obtain ⟨h1, h2⟩ := List.cons.inj h;have := Sum.inl.inj h1;rw [kOf_inj h2]
    congr 1
    omega
def vf (k : Str) (i : V) (b e : Nat) : List (Str × V) := [("kind", .str k), ("inner", i), ("begin", .int (b : Int)), ("end", .int (e : Int))]
def NumOk (b : List Nat) : Prop := b.all Sv20.digit = true -> 1 < b.length -> b.head? ≠ some 48
mutual
inductive VA (CV : Addr) (t : List Nat) (F : Addr -> Prop) (H : Hp) : V -> Json -> Nat -> Nat -> Prop
  | mk {p dx : Addr} {k : Str} {i : V} {x : Json} {b e : Nat} : F p -> H p = some (.ins CV dx (vf k i b e)) -> Inn CV t F H k i x -> VA CV t F H (.ref p) x b e
inductive Inn (CV : Addr) (t : List Nat) (F : Addr -> Prop) (H : Hp) : Str -> V -> Json -> Prop
  | str {l : Addr} {bs : List Nat} : F l -> H l = some (.lst (nv bs)) -> bs.length <= 400000 -> Inn CV t F H "string" (.ref l) (.string bs)
  | num {l : Addr} {bs : List Nat} : F l -> H l = some (.lst (nv bs)) -> bs.length <= 100000 -> NumOk bs -> Inn CV t F H "number" (.ref l) (.number bs)
  | word {k : Str} : (k = "null" \/ k = "true" \/ k = "false") -> Inn CV t F H k .non (.word k.cps.toList)
  | arr {l : Addr} {vs : List V} {xs : List Json} : F l -> H l = some (.lst vs) -> vs.length <= t.length -> VAs CV t F H vs xs -> Inn CV t F H "array" (.ref l) (.array xs)
  | obj {d : Addr} {kvs : List (List Key × V)} {ms : List Mem} : F d -> H d = some (.dT kvs) -> VMs CV t F H kvs ms -> Inn CV t F H "object" (.ref d) (.object ms)
inductive VAs (CV : Addr) (t : List Nat) (F : Addr -> Prop) (H : Hp) : List V -> List Json -> Prop
  | nil : VAs CV t F H [] []
  | cons {v : V} {vs : List V} {x : Json} {xs : List Json} {b e : Nat} : VA CV t F H v x b e -> VAs CV t F H vs xs -> VAs CV t F H (v :: vs) (x :: xs)
inductive VMs (CV : Addr) (t : List Nat) (F : Addr -> Prop) (H : Hp) : List (List Key × V) -> List Mem -> Prop
  | nil : VMs CV t F H [] []
  | cons {v : V} {kvs : List (List Key × V)} {m : Mem} {ms : List Mem} {b e : Nat} : VA CV t F H v m.2.2 b e -> b <= e -> e <= t.length -> (t.drop b).take (e - b) = m.2.1 -> VMs CV t F H kvs ms -> VMs CV t F H ((kOf m.1, v) :: kvs) (m :: ms)
end
section
variable {CV : Addr} {t : List Nat} {F F' : Addr -> Prop} {H H' : Hp}
theorem VA.mono (hF : ∀ a, F a -> F' a) (hH : ∀ a o, F a -> H a = some o -> H' a = some o) {v : V} {x : Json} {b e : Nat} (h : VA CV t F H v x b e) : VA CV t F' H' v x b e :=
  VA.rec (motive_1 := fun v x b e _ => VA CV t F' H' v x b e) (motive_2 := fun k i x _ => Inn CV t F' H' k i x) (motive_3 := fun vs xs _ => VAs CV t F' H' vs xs) (motive_4 := fun kvs ms _ => VMs CV t F' H' kvs ms)
    (fun f h _ i => .mk (hF _ f) (hH _ _ f h) i) (fun f h l => .str (hF _ f) (hH _ _ f h) l) (fun f h l n => .num (hF _ f) (hH _ _ f h) l n) (fun w => .word w) (fun f h n _ i => .arr (hF _ f) (hH _ _ f h) n i) (fun f h _ i => .obj (hF _ f) (hH _ _ f h) i)
    .nil (fun _ _ a b => .cons a b) .nil (fun _ h1 h2 h3 _ a b => .cons a h1 h2 h3 b) h
theorem Inn.mono (hF : ∀ a, F a -> F' a) (hH : ∀ a o, F a -> H a = some o -> H' a = some o) {k : Str} {v : V} {x : Json} (h : Inn CV t F H k v x) : Inn CV t F' H' k v x :=
  Inn.rec (motive_1 := fun v x b e _ => VA CV t F' H' v x b e) (motive_2 := fun k i x _ => Inn CV t F' H' k i x) (motive_3 := fun vs xs _ => VAs CV t F' H' vs xs) (motive_4 := fun kvs ms _ => VMs CV t F' H' kvs ms)
    (fun f h _ i => .mk (hF _ f) (hH _ _ f h) i) (fun f h l => .str (hF _ f) (hH _ _ f h) l) (fun f h l n => .num (hF _ f) (hH _ _ f h) l n) (fun w => .word w) (fun f h n _ i => .arr (hF _ f) (hH _ _ f h) n i) (fun f h _ i => .obj (hF _ f) (hH _ _ f h) i)
    .nil (fun _ _ a b => .cons a b) .nil (fun _ h1 h2 h3 _ a b => .cons a h1 h2 h3 b) h
theorem VAs.mono (hF : ∀ a, F a -> F' a) (hH : ∀ a o, F a -> H a = some o -> H' a = some o) : ∀ {vs : List V} {xs : List Json}, VAs CV t F H vs xs -> VAs CV t F' H' vs xs
  | [], _, h => by cases h; exact .nil
  | _ :: vs, _, h => by
    cases h with
    | cons a b => exact .cons (a.mono hF hH) (VAs.mono hF hH b)
theorem VMs.mono (hF : ∀ a, F a -> F' a) (hH : ∀ a o, F a -> H a = some o -> H' a = some o) : ∀ {kvs : List (List Key × V)} {ms : List Mem}, VMs CV t F H kvs ms -> VMs CV t F' H' kvs ms
  | [], _, h => by cases h; exact .nil
  | _ :: vs, _, h => by
    cases h with
    | cons a h1 h2 h3 b => exact .cons (a.mono hF hH) h1 h2 h3 (VMs.mono hF hH b)
theorem VAs.snoc {v : V} {x : Json} {b e : Nat} (hv : VA CV t F H v x b e) : ∀ {vs : List V} {xs : List Json}, VAs CV t F H vs xs -> VAs CV t F H (vs ++ [v]) (xs ++ [x])
  | [], _, h => by cases h; exact .cons hv .nil
  | _ :: vs, _, h => by
    cases h with
    | cons a b => exact .cons a (VAs.snoc hv b)
theorem VMs.snoc {v : V} {m : Mem} {b e : Nat} (hv : VA CV t F H v m.2.2 b e) (h1 : b <= e) (h2 : e <= t.length) (h3 : (t.drop b).take (e - b) = m.2.1) : ∀ {kvs : List (List Key × V)} {ms : List Mem}, VMs CV t F H kvs ms -> VMs CV t F H (kvs ++ [(kOf m.1, v)]) (ms ++ [m])
  | [], _, h => by cases h; exact .cons hv h1 h2 h3 .nil
  | _ :: vs, _, h => by
    cases h with
    | cons a g1 g2 g3 b => exact .cons a g1 g2 g3 (VMs.snoc hv h1 h2 h3 b)
theorem VMs.keys : ∀ {kvs : List (List Key × V)} {ms : List Mem}, VMs CV t F H kvs ms -> kvs.map (·.1) = ms.map fun m => kOf m.1
  | [], _, h => by cases h; rfl
  | _ :: kvs, _, h => by
    cases h with
    | cons a g1 g2 g3 b => rw [List.map_cons, List.map_cons, VMs.keys b]
theorem VMs.len {kvs : List (List Key × V)} {ms : List Mem} (h : VMs CV t F H kvs ms) : kvs.length = ms.length := by
  have := congrArg List.length h.keys;rw [List.length_map, List.length_map] at this;exact this
theorem VMs.look : ∀ {kvs : List (List Key × V)} {ms : List Mem}, VMs CV t F H kvs ms -> ∀ n : List Nat, match ms.lookup n with
    | none => valV kvs (kOf n) = none
    | some x => ∃ v b e, valV kvs (kOf n) = some v /\ VA CV t F H v x.2 b e /\ b <= e /\ e <= t.length /\ (t.drop b).take (e - b) = x.1
  | [], _, h, n => by cases h; rfl
  | _ :: kvs, _, h, n => by
    cases h with
    | @cons v _ m ms b e a g1 g2 g3 h' =>
      have ih := VMs.look h' n;obtain ⟨k, raw, y⟩ := m;rw [List.lookup_cons];unfold valV;rw [List.find?_cons];by_cases hk : n = k
      · subst hk;rw [beq_self_eq_true];have e1 : decide (kOf n = kOf n) = true := decide_eq_true rfl;simp only [e1];exact ⟨v, b, e, rfl, a, g1, g2, g3⟩
      · have e0 : (n == k) = false := beq_eq_false_iff_ne.mpr hk;rw [e0];have e1 : decide (kOf k = kOf n) = false := decide_eq_false fun z => hk (kOf_inj z).symm
        simp only [e1];exact ih
theorem keys_in {kvs : List (List Key × V)} {ms : List Mem} (h : VMs CV t F H kvs ms) {x : List Nat} {v : V} (e : valV kvs (kOf x) = some v) : x ∈ ms.map fun m => m.1 := by
  have := valV_in e;rw [h.keys] at this;obtain ⟨m, hm, e⟩ := List.mem_map.mp this;rw [<- kOf_inj e];exact List.mem_map.mpr ⟨m, hm, rfl⟩
theorem keys_out {kvs : List (List Key × V)} {ms : List Mem} (h : VMs CV t F H kvs ms) {x : List Nat} (e : valV kvs (kOf x) = none) : x ∉ ms.map fun m => m.1 := fun hx => by
  obtain ⟨m, hm, rfl⟩ := List.mem_map.mp hx;have := valV_not e;rw [h.keys] at this;exact this (List.mem_map.mpr ⟨m, hm, rfl⟩)
end
def Fr (H : Hp) : Addr -> Prop := fun a => H a = none
theorem fr_but {r : Addr} {H H' : Hp} {o : HO} (b : But r H H') (h : H' r = some o) : ∀ a, Fr H' a -> Fr H a := by
  intro a ha;show H a = none;have ha : H' a = none := ha;cases q : H a with
  | none => rfl
  | some u =>
    by_cases e : a = r
    · rw [e, h] at ha; cases ha
    · rw [b a u q e] at ha; cases ha
theorem keep_but {r : Addr} {H0 H H' : Hp} {o : HO} (h0 : H0 r = some o) (b : But r H H') : ∀ a u, Fr H0 a -> H a = some u -> H' a = some u := fun a u f e => b a u e fun z => by
  have f : H0 a = none := f;rw [z, h0] at f;cases f
def isS (v : Value) (x : Str) : Bool := match v with
  | .str j _ => decide (j = x)
  | _ => false
theorem isS_is {v : Value} {x : Str} (h : isS v x = true) : ∃ t, v = .str x t := by
  cases v with
  | str j t => exact ⟨t, by rw [of_decide_eq_true (show decide (j = x) = true from h)]⟩
  | _ => cases h
def sOk : List (Nat × Str) -> List DictEntry -> Bool
  | [], [] => true
  | p :: l, e :: es => isI e.key (p.1 : Int) && (isS e.val p.2 && (decide (e.hash = hashInt (p.1 : Int)) && sOk l es))
  | _, _ => false
inductive SRel : List (Nat × Str) -> List (Key × Value) -> Prop
  | nil : SRel [] []
  | cons {k : Nat} {v : Str} {t : Tok} {l : List (Nat × Str)} {vs : List (Key × Value)} : SRel l vs -> SRel ((k, v) :: l) ((Sum.inl (k : Int), Value.str v t) :: vs)
theorem sOk_rel {P : Program} {w : World} : ∀ {l : List (Nat × Str)} {es : List DictEntry}, sOk l es = true -> (∀ e ∈ es, ∃ k, (x4 P w).is k e.key = true /\ e.hash = (x4 P w).hash k) /\ ∃ vs, Pairs (x4 P w) es vs /\ SRel l vs
  | [], [], _ => ⟨(fun e he => nomatch he), [], Pairs.nil, SRel.nil⟩
  | p :: l, e :: es, q => by
    obtain ⟨k, v⟩ := p;obtain ⟨h, ky, vl⟩ := e;have q' : (isI ky (k : Int) && (isS vl v && (decide (h = hashInt (k : Int)) && sOk l es))) = true := q;simp only [Bool.and_eq_true, decide_eq_true_eq] at q';obtain ⟨e1, e2, e3, q4⟩ := q';obtain ⟨t1, rfl⟩ := isI_is e1;obtain ⟨t2, rfl⟩ := isS_is e2;subst e3;obtain ⟨h1, vs, h2, h3⟩ := sOk_rel (P := P) (w := w) q4;have hk : (x4 P w).is (Sum.inl (k : Int)) (Value.int (k : Int) t1) = true := Z4 P w _ _;refine ⟨fun e he => ?_, _, .cons (kv := (Sum.inl (k : Int), Value.str v t2)) hk rfl h2, .cons h3⟩;rcases List.mem_cons.mp he with z | z
    · subst z; exact ⟨Sum.inl (k : Int), hk, rfl⟩
    · exact h1 e z
  | [], _ :: _, q => by cases q
  | _ :: _, [], q => by cases q
theorem srel_keys {l : List (Nat × Str)} {vs : List (Key × Value)} (h : SRel l vs) : vs.map (·.1) = l.map fun p => (Sum.inl (p.1 : Int) : Key) := by
  induction h with
  | nil => rfl
  | cons _ ih => rw [List.map_cons, List.map_cons, ih]
def lkS (l : List (Nat × Str)) (z : Int) : Option Str := (l.find? fun p => decide ((p.1 : Int) = z)).map (·.2)
theorem srel_val {l : List (Nat × Str)} {vs : List (Key × Value)} (h : SRel l vs) (z : Int) : match lkS l z with
    | some v => ∃ t, valueAt vs (Sum.inl z) = some (Value.str v t)
    | none => valueAt vs (Sum.inl z) = none := by
  induction h with
  | nil => rfl
  | @cons k v t l vs h ih =>
    unfold lkS valueAt;rw [List.find?_cons, List.find?_cons];by_cases e : (k : Int) = z
    · subst e;simp
    · have e1 : decide ((k : Int) = z) = false := decide_eq_false e;have e2 : decide ((Sum.inl (k : Int) : Key) = Sum.inl z) = false := decide_eq_false fun y => e (Sum.inl.inj y)
      simp only [e1, e2];exact ih
structure ModS (K : PySem.W.Frag) (a : Addr) (l : List (Nat × Str)) : Prop where
  ne : (a == sysModules) = false
  nd : (l.map (·.1)).Nodup
  ex : ∃ o es ep, K.lookup a = some o /\ o.ExactDict /\ o.data = .dict es ep /\ sOk l es.toList = true
section
variable {X : Cx} {pins : List (Addr × Obj)} {σ : L2.St} {H : Hp} {s : Shared}
theorem mod_sdict {a : Addr} {l : List (Nat × Str)} (M : ModS X.K a l) (I : Inv X pins σ H s) : ∃ vs, SRel l vs /\ s.heap.DictOf (x4 X.prog X.w) a vs := by
  obtain ⟨o, es, ep, hk, hx, hd, hq⟩ := M.ex;obtain ⟨h1, vs, h2, h3⟩ := sOk_rel (P := X.prog) (w := X.w) hq;refine ⟨vs, h3, o, es, ep, I.kIn a o hk, hx, hd, fun e he => h1 e (by simpa using he), h2, ?_⟩;rw [srel_keys h3];have nd := M.nd;have : l.map (fun p => (Sum.inl (p.1 : Int) : Key)) = (l.map (fun p : Nat × Str => p.1)).map (fun k : Nat => (Sum.inl (k : Int) : Key)) := by rw [List.map_map]; rfl
  rw [this];exact List.Pairwise.map _ (fun x y h e => h (by have := Sum.inl.inj e; omega)) nd
def tSGet2 (a : Addr) (l : List (Nat × Str)) (td ty tx : TE) : TE := fun σ H Q => td σ H fun x H1 => x = .ref a /\ ty σ H1 fun y H2 => tx σ H2 fun z H3 => ∃ (i : Int) (d : Str), y = .int i /\ z = .str d /\ Q (.str ((lkS l i).getD d)) H3
theorem pe_sget2 {a : Addr} {l : List (Nat × Str)} {o e f : Expr} {apos cpos : Pos} {td ty tx : TE} (M : ModS X.K a l) (ho : PE X o td) (he : PE X e ty) (hf : PE X f tx) (m : M2 X o "get" apos e f cpos) : PE X (.Call (.Attribute o "get" apos) [e, f] [] cpos) (tSGet2 a l td ty tx) := by
  intro pins s σ H Q I h;refine wpAny_Call_method m.base m.few m.line PySem.F.plainAttrs_dict PySem.F.slot_dict_get PySem.F.type_dict_get (thn (ho pins s σ H _ I h) fun u s1 ⟨x, H1, I1, rx, ex, q1⟩ => ?_);subst ex;obtain rfl : u = Value.ref a := rx;obtain ⟨vs, dr, dd⟩ := mod_sdict M I1;refine ⟨dd.typeIs, fun b q => ?_, ?_⟩
  · cases q;obtain ⟨ob, _, _, h1, h2, _⟩ := dd;exact ⟨ob, h1, h2.2.1⟩
  rw [m.trees]
  refine Calls.callWith_builtin rfl (Calls.evalArgs_plain (Calls.spliced_cons (thn (he pins s1 σ H1 _ I1 q1) fun iv s2 ⟨y, H2, I2, ry, q2⟩ =>
    Calls.spliced_cons (thn (hf pins s2 σ H2 _ I2 q2) fun fv s3 ⟨z, H3, I3, rz, i, d, ey, ez, q3⟩ => Calls.spliced_nil ?_))))
  subst ey ez;obtain ⟨t, rfl⟩ := ry;obtain ⟨vs, dr, dd⟩ := mod_sdict M I3;refine call_meetsIn PySem.F.slot_dict_get dd.typeIs PySem.F.entry_dict_get (PySem.F.args_dict_get_3 _ _ _) (meets_dict_get_default (x4 X.prog X.w) a (Z4 X.prog X.w i t) M.ne fv) ⟨_, dd.mapOf, ⟨.str ((lkS l i).getD d), H3, I3.tok _, ?_, q3⟩⟩;have hv := srel_val dr i;cases hl : lkS l i with
  | none => rw [hl] at hv; rw [hv]; exact rz
  | some v => rw [hl] at hv; obtain ⟨t2, e⟩ := hv; rw [e]; exact ⟨t2, rfl⟩
theorem pe_gs {x z : Str} {pos : Pos} (hg : Gl X x) (h : ∃ t, X.mg x = some (.str z t)) (hd : (x == ("__debug__" : Str)) = false := by decide) : PE X (.Name x pos) (tC (.str z)) := by
  obtain ⟨t, e⟩ := h;exact pe_glob hg e ⟨t, rfl⟩ hd
end
theorem ifS {x y : Str} {A B : Prop} (h : x = y -> A) (h' : x ≠ y -> B) : if decide (V.str x = V.str y) = true then A else B :=
  ite2 (fun e => h (V.str.inj (of_decide_eq_true e))) fun e => h' fun z => e (decide_eq_true (by rw [z]))
theorem ifSn {x y : Str} {A B : Prop} (h : x ≠ y -> A) (h' : x = y -> B) : if (!decide (V.str x = V.str y)) = true then A else B := by
  by_cases e : x = y
  · rw [decide_eq_true (by rw [e])]; exact iteF (h' e)
  · rw [decide_eq_false (fun z => e (V.str.inj z))]; exact iteT (h e)
def kinds : List (Nat × Str) := [(91, "array"), (123, "object"), (34, "string"), (110, "null"), (116, "true"), (102, "false")]
def kindOf (t : List Nat) (q : Nat) : Str := (lkS kinds (nb t q)).getD "number"
theorem Z9 {t : List Nat} {q c : Nat} (h : t[q]? = some c) : kindOf t q = (lkS kinds (c : Int)).getD "number" := by unfold kindOf; rw [Z0 h]
theorem kind_num {t : List Nat} {q : Nat} (h : ∀ k, k = 34 \/ k = 91 \/ k = 123 \/ k = 110 \/ k = 116 \/ k = 102 -> ¬ t[q]? = some k) : kindOf t q = "number" := by
  unfold kindOf
  have : lkS kinds (nb t q) = none := by
    unfold lkS;rw [List.find?_eq_none.mpr]
    · rfl
    intro p hp e;have e := of_decide_eq_true e;have e2 : t[q]? = some p.1 := v9.mp e.symm;unfold kinds at hp;simp only [List.mem_cons, List.not_mem_nil, or_false] at hp;refine h p.1 ?_ e2;rcases hp with rfl | rfl | rfl | rfl | rfl | rfl
    · exact .inr (.inl rfl)
    · exact .inr (.inr (.inl rfl))
    · exact .inl rfl
    · exact .inr (.inr (.inr (.inl rfl)))
    · exact .inr (.inr (.inr (.inr (.inl rfl))))
    · exact .inr (.inr (.inr (.inr (.inr rfl))))
  rw [this];rfl
structure Txt6 (K : PySem.W.Frag) (mg : Str -> Option Value) (CV aK : Addr) : Prop where
  kd : mg "KINDS" = some (.ref aK)
  kv : ModS K aK kinds
  ga : ∃ t, mg "ARRAY" = some (.str "array" t)
  go : ∃ t, mg "OBJECT" = some (.str "object" t)
  gs : ∃ t, mg "STRING" = some (.str "string" t)
  gn : ∃ t, mg "NUMBER" = some (.str "number" t)
  cl : Cls K CV
  nK : Y4 K CV "kind"
  nI : Y4 K CV "inner"
  nB : Y4 K CV "begin"
  nE : Y4 K CV "end"
  mV : mg "Value" = some (.ref CV)
theorem putF_new {x : Str} {v : V} : ∀ {fs : List (Str × V)}, (∀ p ∈ fs, p.1 ≠ x) -> putF x v fs = fs ++ [(x, v)]
  | [], _ => rfl
  | (g, u) :: r, h => by
    show (if g = x then _ else (g, u) :: putF x v r) = _;rw [if_neg (h (g, u) List.mem_cons_self), putF_new fun p hp => h p (List.mem_cons_of_mem _ hp)];rfl
theorem put4 {a b c d : Str} {u v w z : V} (h1 : a ≠ b) (h2 : a ≠ c) (h3 : b ≠ c) (h4 : a ≠ d) (h5 : b ≠ d) (h6 : c ≠ d) : putF d z (putF c w (putF b v (putF a u []))) = [(a, u), (b, v), (c, w), (d, z)] := by
  rw [putF_new (x := a) (by intro p hp; cases hp), putF_new (x := b), putF_new (x := c), putF_new (x := d)]
  · rfl
  all_goals
    intro p hp;simp only [List.nil_append, List.append_assoc, List.cons_append, List.mem_cons, List.not_mem_nil, or_false] at hp;rcases hp with rfl | rfl | rfl <;> assumption
def spVInit (CV : Addr) : Sp := fun vs H Q _ => ∃ (p dx : Addr) (k : Str) (i : V) (b e : Nat), vs = [.ref p, .str k, i, .int (b : Int), .int (e : Int)] /\ H p = some (.ins CV dx []) /\ ∀ H', But p H H' -> H' p = some (.ins CV dx (vf k i b e)) -> Q .non H'
section
variable (K : PySem.W.Frag) (CR CN CV : Addr)
def spVal (d : Nat) : Sp := fun vs H Q E => ∃ dx r a t p c f, vs = [.ref r, .int (16 - (d : Int))] /\ Rat K CR dx r a t p c H /\ p <= t.length /\ 2 * (t.drop (sk t p)).length + 1 <= f /\
  (value f d (t.drop (sk t p)) = none -> (∀ H', E (.ref CN) none H') /\ ∀ v p' c' H', But r H H' -> Rat K CR dx r a t p' c' H' -> isd (nb t p') = true -> Q v H') /\
  (∀ x e, value f d (t.drop (sk t p)) = some (x, t.drop e) -> e <= t.length -> sk t p < e -> ∀ v c' H', (∀ k, d < k -> c' = c + valuesIn k x) -> But r H H' -> VA CV t (Fr H) H' v x (sk t p) e -> Rat K CR dx r a t (sk t e) c' H' -> Q v H')
def spInner (d : Nat) : Sp := fun vs H Q E => ∃ dx r a t q c f, vs = [.ref r, .str (kindOf t q), .int (16 - (d : Int))] /\ Rat K CR dx r a t q c H /\ q <= t.length /\ 2 * (t.drop q).length <= f /\
  (value (f + 1) d (t.drop q) = none -> (∀ H', E (.ref CN) none H') /\ ∀ v p' c' H', But r H H' -> Rat K CR dx r a t p' c' H' -> isd (nb t p') = true -> Q v H') /\
  (∀ x e, value (f + 1) d (t.drop q) = some (x, t.drop e) -> e <= t.length -> q < e -> ∀ v c' H', (∀ k, d < k -> c' + 1 = c + valuesIn k x) -> But r H H' -> Inn CV t (Fr H) H' (kindOf t q) v x -> Rat K CR dx r a t e c' H' -> Q v H')
def spNest (d : Nat) : Sp := fun vs H Q E => ∃ dx r a t q c f, ∃ k : Str, vs = [.ref r, .str k, .int (16 - (d : Int))] /\ ((k = "array" /\ t[q]? = some 91) \/ (k = "object" /\ t[q]? = some 123)) /\ Rat K CR dx r a t q c H /\ 2 * (t.drop q).length <= f /\
  (value (f + 1) d (t.drop q) = none -> ∀ H', E (.ref CN) none H') /\
  (∀ x e, value (f + 1) d (t.drop q) = some (x, t.drop e) -> e <= t.length -> q < e -> ∀ v c' H', (∀ k, d < k -> c' + 1 = c + valuesIn k x) -> But r H H' -> Inn CV t (Fr H) H' k v x -> Rat K CR dx r a t e c' H' -> Q v H')
def spArr (d : Nat) : Sp := fun vs H Q E => ∃ dx r a t q c f, vs = [.ref r, .int (16 - (d : Int))] /\ t[q]? = some 91 /\ Rat K CR dx r a t q c H /\ 2 * (t.drop q).length <= f /\
  (arrS f d t q = none -> ∀ H', E (.ref CN) none H') /\
  (∀ l e, arrS f d t q = some (l, t.drop e) -> e <= t.length -> q < e -> ∀ v c' H', (∀ k, d < k -> c' = c + (l.map (valuesIn k)).sum) -> But r H H' -> Inn CV t (Fr H) H' "array" v (.array l) -> Rat K CR dx r a t e c' H' -> Q v H')
def spObj (d : Nat) : Sp := fun vs H Q E => ∃ dx r a t q c f, vs = [.ref r, .int (16 - (d : Int))] /\ t[q]? = some 123 /\ Rat K CR dx r a t q c H /\ 2 * (t.drop q).length <= f /\
  (objS f d t q = none -> ∀ H', E (.ref CN) none H') /\
  (∀ l e, objS f d t q = some (l, t.drop e) -> e <= t.length -> q < e -> ∀ v c' H', (∀ k, d < k -> c' = c + (l.map fun m => valuesIn k m.2.2).sum) -> But r H H' -> Inn CV t (Fr H) H' "object" v (.object l) -> Rat K CR dx r a t e c' H' -> Q v H')
end
section
variable {P : Program} {w : World} {K : PySem.W.Frag} {mg : Str -> Option Value} {base : Heap} {CR CN CV aB aL aE aK : Addr} {as : List Addr}
theorem scVI : z7 ["self", "kind", "inner", "begin", "end"] ["self", "kind", "inner", "begin", "end"] (y3 (inClass (top 23) 0)) := ⟨rfl, rfl, rfl, by decide +kernel, rfl, by decide +kernel, by decide +kernel⟩
theorem len_putF {x : Str} {v : V} {fs : List (Str × V)} {n : Nat} (h : fs.length <= n) : (putF x v fs).length <= n + 1 := by
  have := length_putF x v fs;omega
theorem ok_vinit {f : Addr} {fd : FuncData} (F : Fun K "__init__" "Value.__init__" (inClass (top 23) 0) f fd) (T6 : Txt6 K mg CV aK) : FnOk P w K mg base CX0 1 f fd ["self", "kind", "inner", "begin", "end"] (spVInit CV) := by
  refine F.ok scVI (fun vs H Q E h => ?_) (fun cdv A outer s H vs Q E hr h => ?_)
  · obtain ⟨p, dx, k, i, b, e, rfl, _⟩ := h;rfl
  · obtain ⟨p, dx, k, i, b, e, rfl, hH, q⟩ := h;refine ⟨_, w4 (Y2 (pv 0) (pv 1) rfl) (w4 (Y2 (pv 0) (pv 2) rfl) (w4 (Y2 (pv 0) (pv 3) rfl) (w8 (Y2 (pv 0) (pv 4) rfl)))), ?_⟩;have l1 : (putF "kind" (V.str k) []).length <= 1 := len_putF (Nat.le_refl 0);have l2 : (putF "inner" i (putF "kind" (V.str k) [])).length <= 2 := len_putF l1;have l3 : (putF "begin" (V.int (b : Int)) (putF "inner" i (putF "kind" (V.str k) []))).length <= 3 := len_putF l2;refine ⟨_, rfl, _, rfl, p, CV, dx, _, rfl, hH, T6.cl, T6.nK, (by show 0 < 1000; decide), _, rfl, _, rfl, p, CV, dx, _, rfl, y1, T6.cl, T6.nI, (by omega), _, rfl, _, rfl, p, CV, dx, _, rfl, y1, T6.cl, T6.nB, (by omega), _, rfl, _, rfl, p, CV, dx, _, rfl, y1, T6.cl, T6.nE, (by omega), ?_⟩;refine q _ (fun b o e n => by rw [y9 n, y9 n, y9 n, y9 n]; exact e) ?_;rw [y1, put4 (by decide +kernel) (by decide +kernel) (by decide +kernel) (by decide +kernel) (by decide +kernel) (by decide +kernel)];rfl
theorem sc6 : z7 ["self", "around", "begin", "kind", "inner", "end"] ["self", "around"] (y3 (inClass (top 24) 6)) := ⟨rfl, rfl, rfl, by decide +kernel, rfl, by decide +kernel, by decide +kernel⟩
theorem ok_val {d k : Nat} (hk : 6 <= k) {f fI : Addr} {fd fdI : FuncData} (F : Fun K "read_value" "Reader.read_value" (inClass (top 24) 6) f fd) (T : Txt K mg CR CN aB) (T6 : Txt6 K mg CV aK) (C1 : z9 P w K mg base CX0 CR "next_byte" 1 ["self"] (spNext K CR)) (C4 : z9 P w K mg base CX0 CR "skip_blanks" 2 ["self"] (spSkip K CR))
    (CI : z9 P w K mg base (CXn P w CN) CR "read_inner" k ["self", "kind", "around"] (spInner K CR CN CV d)) (M : Mk K CV fI) (GI : FnOk P w K mg base CX0 1 fI fdI ["self", "kind", "inner", "begin", "end"] (spVInit CV)) (bI : Binds K fdI ["self", "kind", "inner", "begin", "end"] []) : FnOk P w K mg base (CXn P w CN) (k + 1) f fd ["self", "around"] (spVal K CR CN CV d) := by
  refine okx F sc6 (fun vs H Q E h => ?_) (fun cdv A outer s H vs Q E hr h => ?_)
  · obtain ⟨dx, r, a, t, p, c, f, rfl, _⟩ := h;rfl
  · obtain ⟨dx, r, a, t, p, c, fu, rfl, R, hp, hf, q1, q2⟩ := h;have hr1 : Room 1 _ := hr.mono (by omega);have hr2 : Room 2 _ := hr.mono (by omega)
    refine ⟨_, w4 (k8 (pm0 C4 j0 T.cl hr2 (pv 0)))
      (w4 (Y2 (pv 0) (y8 Q2 (k7 (pv 0) rfl) y2) rfl)
      (w4 (z6 (i := 2) sc6.nd rfl (Or.inl rfl) (k7 (pv 0) rfl))
      (w4 (z6 (i := 3) sc6.nd rfl (Or.inl rfl) (pe_sget2 T6.kv (pe_glob (v := .ref aK) rfl T6.kd rfl) (pm0 C1 j0 T.cl hr1 (pv 0)) (pe_gs rfl T6.gn) ⟨rfl, rfl, rfl, rfl⟩))
      (w4 (z6 (i := 4) sc6.nd rfl (Or.inl rfl) (pm CI Q1 T.cl hr (pv 0) (w6 (pv 3) (w6 (pv 1) w9))))
      (w4 (z6 (i := 5) sc6.nd rfl (Or.inl rfl) (k7 (pv 0) rfl))
      (w4 (k8 (pm0 C4 j0 T.cl hr2 (pv 0)))
      (w8 (y6 (pe_make M GI hr2 rfl T6.mV bI .nil j0 (w6 (pv 3) (w6 (pv 4) (w6 (pv 2) (w6 (pv 5) w9))))))))))))), ?_⟩
    obtain ⟨g, rfl⟩ : ∃ g, fu = g + 1 := ⟨fu - 1, by omega⟩;obtain ⟨s1, s2⟩ := sk_in hp;refine ⟨_, rfl, r, dx, _, rfl, R.at_, rfl, dx, r, a, t, p, c, rfl, R, fun H1 b1 R1 => ?_⟩;refine ⟨_, rfl, r, CR, dx, _, _, rfl, R1.at_, T.cl, T.nC, rfl, c, 1, rfl, rfl, _, rfl, r, CR, dx, _, rfl, R1.at_, T.cl, T.nC, (by show 3 < 1000; decide), ?_⟩;rw [rf_count];have b2 : But r H (upd H1 r (.ins CR dx (rf a (sk t p) (c + 1)))) := b1.trans But.upd;have R2 : Rat K CR dx r a t (sk t p) (c + 1) (upd H1 r (.ins CR dx (rf a (sk t p) (c + 1)))) := R1.put But.upd y1;generalize upd H1 r (.ins CR dx (rf a (sk t p) (c + 1))) = H2 at b2 R2;generalize sk t p = q at *
    refine ⟨_, rfl, r, CR, dx, _, _, rfl, R2.at_, T.cl, T.nP, rfl, ?_⟩
    have fin : ∀ (p1 c1 : Nat) (H3 : Hp) (v : V), Rat K CR dx r a t p1 c1 H3 -> (∀ (y dxy : Addr) (H' : Hp), But r H3 H' -> H3 y = none -> H' y = some (.ins CV dxy (vf (kindOf t q) v q p1)) -> Rat K CR dx r a t (sk t p1) c1 H' -> Q (.ref y) H') ->
        tSeq (tAsg (tFld K (tVar 0) "place") (gName 5)) (tSeq (W9 (tMeth CR "skip_blanks" (spSkip K CR) [] E0 (tVar 0) tNil)) (tRet (tMake CV (spVInit CV) [] E0 (Q0 (tVar 3) (Q0 (tVar 4) (Q0 (tVar 2) (Q0 (tVar 5) tNil))))))) { nx := fun _ H' => Q .non H', rt := Q } [some (.ref r), some (.int (16 - (d : Int))), some (.int (q : Int)), some (.str (kindOf t q)), some v, none] H3 := by
      intro p1 c1 H3 v R3 k3;refine ⟨_, rfl, r, CR, dx, _, _, rfl, R3.at_, T.cl, T.nP, rfl, ?_⟩;refine ⟨_, rfl, r, dx, _, rfl, R3.at_, rfl, dx, r, a, t, p1, c1, rfl, R3, fun H4 b4 R4 => ?_⟩;refine ⟨_, rfl, _, rfl, _, rfl, _, rfl, fun y dxy hy hd ne => ?_⟩;have nry : r ≠ y := y4 R4.at_ hy;have nrd : r ≠ dxy := y4 R4.at_ hd;refine ⟨y, dxy, kindOf t q, v, q, p1, rfl, y1, fun H5 b5 h5 => ⟨rfl, ?_⟩⟩;have b45 : But r H4 H5 := fun b o e _ => b5 b o (by rw [y9 (y4 e hy), y9 (y4 e hd)]; exact e) (y4 e hy)
      refine k3 y dxy H5 (b4.trans b45) ?_ h5 (R4.put b45 ?_)
      · cases z : H3 y with
        | none => rfl
        | some o => rw [b4 y o z (Ne.symm nry)] at hy; cases hy
      · exact b5 _ _ (by rw [y9 nry, y9 nrd]; exact R4.at_) nry
    refine ⟨rfl, _, rfl, r, dx, _, rfl, R2.at_, rfl, dx, r, a, t, q, c + 1, rfl, R2, _, _, rfl, rfl, ?_⟩;refine ⟨_, rfl, r, dx, _, rfl, R2.at_, rfl, _, rfl, _, rfl, dx, r, a, t, q, c + 1, g, rfl, R2, s2, by omega, fun hv => ⟨(q1 hv).1, fun v p' c' H3 b3 R3 hd => ?_⟩, fun x e hv h1 h2 v c' H3 h4 b3 hi R3 => ?_⟩
    · obtain ⟨bb, hbb, hdb⟩ := isd_get hd
      have nbl : Sv20.blank bb = false := by
        unfold Sv20.digit at hdb;rw [Bool.and_eq_true, decide_eq_true_eq, decide_eq_true_eq] at hdb;unfold Sv20.blank;simp;omega
      have es : sk t p' = p' := run_stop hbb nbl;exact fin p' c' H3 v R3 fun y dxy H' b4 _ _ R4 => (q1 hv).2 (.ref y) p' c' H' ((b2.trans b3).trans b4) (by rw [es] at R4; exact R4) hd
    · refine fin e c' H3 v R3 fun y dxy H' b4 hy h5 R4 => q2 x e hv h1 h2 (.ref y) c' H' (fun k hk => by have := h4 k hk; omega) ((b2.trans b3).trans b4) ?_ R4
      have b23 := b2.trans b3;refine .mk (fr_but b23 R3.at_ y hy) h5 (hi.mono (fr_but b2 R2.at_) (keep_but R2.at_ b4))
theorem sc7i : z7 ["self", "kind", "around"] ["self", "kind", "around"] (y3 (inClass (top 24) 7)) := ⟨rfl, rfl, rfl, by decide +kernel, rfl, by decide +kernel, by decide +kernel⟩
theorem ok_inner {d k : Nat} (hk : 6 <= k) {f : Addr} {fd : FuncData} (F : Fun K "read_inner" "Reader.read_inner" (inClass (top 24) 7) f fd) (T : Txt K mg CR CN aB) (T6 : Txt6 K mg CV aK)
    (CNs : z9 P w K mg base (CXn P w CN) CR "read_nest" k ["self", "kind", "around"] (spNest K CR CN CV d)) (CSt : z9 P w K mg base (CXn P w CN) CR "read_string" 6 ["self"] (spStr K CR CN)) (CW : z9 P w K mg base (CXn P w CN) CR "read_word" 4 ["self", "word"] (spWord K CR CN))
    (CNu : z9 P w K mg base (CXn P w CN) CR "read_number" 3 ["self"] (spNum K CR CN)) : FnOk P w K mg base (CXn P w CN) (k + 1) f fd ["self", "kind", "around"] (spInner K CR CN CV d) := by
  refine okx F sc7i (fun vs H Q E h => ?_) (fun cdv A outer s H vs Q E hr h => ?_)
  · obtain ⟨dx, r, a, t, p, c, f, rfl, _⟩ := h;rfl
  · obtain ⟨dx, r, a, t, q, c, g, rfl, R, hq, hf, q1, q2⟩ := h;have hr3 : Room 3 _ := hr.mono (by omega);have hr4 : Room 4 _ := hr.mono (by omega);have hr6 : Room 6 _ := hr.mono (by omega)
    refine ⟨_, w4 (j7 (PW.pt (pw_or (j8 op_eq (pv 1) (pe_gs rfl T6.ga) (j9 _)) (pw_or1 (j8 op_eq (pv 1) (pe_gs rfl T6.go) (j9 _))))) (w8 (y6 (pm CNs Q1 T.cl hr (pv 0) (w6 (pv 1) (w6 (pv 2) w9))))) z0)
      (w4 (j7 (j8 op_eq (pv 1) (pe_gs rfl T6.gs) (j9 _)) (w8 (y6 (pm0 CSt Q1 T.cl hr6 (pv 0)))) z0)
      (w4 (j7 (j8 op_eq (pv 1) (pe_gs rfl T6.gn) (j9 _)) (w8 (y6 (pm0 CNu Q1 T.cl hr3 (pv 0)))) z0)
      (w4 (k8 (pm CW Q1 T.cl hr4 (pv 0) (w6 (pv 1) w9)))
      (w8 (y6 Z7))))), ?_⟩
    have no : value (g + 1) d (t.drop q) = none -> ∀ H', E (.ref CN) none H' := fun h => (q1 h).1
    have hlen := R.len
    have word : ∀ (cc : Nat) (rr : List Nat), t[q]? = some cc -> (kindOf t q = "null" \/ kindOf t q = "true" \/ kindOf t q = "false") -> (kindOf t q).cps.toList = cc :: rr -> (kindOf t q).cps.toList ∈ ([Sv20.ascii "null", Sv20.ascii "true", Sv20.ascii "false"] : List (List Nat)) -> (cc = 110 \/ cc = 116 \/ cc = 102) ->
        tSeq (W9 (tMeth CR "read_word" (spWord K CR CN) [] E (tVar 0) (Q0 (tVar 1) tNil))) (tRet (tC .non)) { nx := fun _ H' => Q .non H', rt := Q } [some (.ref r), some (.str (kindOf t q)), some (.int (16 - (d : Int)))] H := by
      intro cc rr hcc hw hx hm h3;have hv := val_word (f := g) (d := d) hcc hx hm h3;have hl : (kindOf t q).cps.size = (kindOf t q).cps.toList.length := by simp
      refine ⟨_, rfl, r, dx, _, rfl, R.at_, rfl, _, rfl, dx, r, a, t, q, c, kindOf t q, rfl, R, fun e H3 b3 R3 => ?_, fun e => no ?_⟩
      · rw [hl] at e;rw [if_pos e] at hv;have hn := congrArg List.length e;rw [List.length_take, List.length_drop] at hn;have hpos : 0 < (kindOf t q).cps.toList.length := by rw [hx]; simp
        rw [hl] at R3;exact q2 _ _ hv (by omega) (by omega) .non c H3 (fun k _ => by rw [vi_one k (.inl ⟨_, rfl⟩)]) b3 (.word hw) R3
      · rw [hl] at e;rw [if_neg e] at hv;exact hv
    by_cases h91 : t[q]? = some 91
    · have ek : kindOf t q = "array" := Z9 h91;refine ⟨_, rfl, rfl, _, rfl, ifS (fun _ => iteT ?_) (fun n => absurd ek n)⟩;refine ⟨_, rfl, r, dx, _, rfl, R.at_, rfl, _, rfl, _, rfl, dx, r, a, t, q, c, g, _, rfl, .inl ⟨ek, h91⟩, R, hf, no, q2⟩
    refine ⟨_, rfl, rfl, _, rfl, ifS (fun n => ?_) (fun n1 => ?_)⟩
    · exfalso;by_cases h123 : t[q]? = some 123
      · rw [Z9 h123] at n; exact absurd n (by decide +kernel)
      by_cases h34 : t[q]? = some 34
      · rw [Z9 h34] at n; exact absurd n (by decide +kernel)
      by_cases h110 : t[q]? = some 110
      · rw [Z9 h110] at n; exact absurd n (by decide +kernel)
      by_cases h116 : t[q]? = some 116
      · rw [Z9 h116] at n; exact absurd n (by decide +kernel)
      by_cases h102 : t[q]? = some 102
      · rw [Z9 h102] at n; exact absurd n (by decide +kernel)
      rw [kind_num (fun k hk => by rcases hk with rfl | rfl | rfl | rfl | rfl | rfl <;> assumption)] at n;exact absurd n (by decide +kernel)
    by_cases h123 : t[q]? = some 123
    · have ek : kindOf t q = "object" := Z9 h123;refine ⟨_, rfl, rfl, _, rfl, ifS (fun _ => ?_) (fun n => absurd ek n)⟩;refine ⟨_, rfl, r, dx, _, rfl, R.at_, rfl, _, rfl, _, rfl, dx, r, a, t, q, c, g, _, rfl, .inr ⟨ek, h123⟩, R, hf, no, q2⟩
    by_cases h34 : t[q]? = some 34
    · have ek : kindOf t q = "string" := Z9 h34;have hv := val_str (f := g) (d := d) h34;rw [ek];refine ⟨_, rfl, rfl, _, rfl, ifS (fun n => absurd n (by decide +kernel)) (fun _ => ?_)⟩;refine ⟨_, rfl, rfl, _, rfl, ifS (fun _ => ?_) (fun n => absurd rfl n)⟩;refine ⟨_, rfl, r, dx, _, rfl, R.at_, rfl, dx, r, a, t, q, c, rfl, R, fun e => absurd h34 e, fun _ => ⟨fun e => no (by rw [hv, e]; rfl), fun x p1 e k1 k2 k3 l H3 b3 hl kl R3 => ?_⟩⟩;rw [e] at hv;exact q2 _ p1 hv k2 k1 _ _ H3 (fun k _ => by rw [vi_one k (.inr (.inr ⟨_, rfl⟩))]) b3 (by rw [ek]; exact .str hl kl k3) R3
    by_cases h110 : t[q]? = some 110
    · have ek : kindOf t q = "null" := Z9 h110;have W := word 110 _ h110 (.inl ek) (by rw [ek]; rfl) (by rw [ek]; decide) (.inl rfl);rw [ek] at W ⊢;refine ⟨_, rfl, rfl, _, rfl, ifS (fun n => absurd n (by decide +kernel)) (fun _ => ?_)⟩;refine ⟨_, rfl, rfl, _, rfl, ifS (fun n => absurd n (by decide +kernel)) (fun _ => ?_)⟩;exact ⟨_, rfl, rfl, _, rfl, ifS (fun n => absurd n (by decide +kernel)) (fun _ => W)⟩
    by_cases h116 : t[q]? = some 116
    · have ek : kindOf t q = "true" := Z9 h116;have W := word 116 _ h116 (.inr (.inl ek)) (by rw [ek]; rfl) (by rw [ek]; decide) (.inr (.inl rfl));rw [ek] at W ⊢;refine ⟨_, rfl, rfl, _, rfl, ifS (fun n => absurd n (by decide +kernel)) (fun _ => ?_)⟩;refine ⟨_, rfl, rfl, _, rfl, ifS (fun n => absurd n (by decide +kernel)) (fun _ => ?_)⟩;exact ⟨_, rfl, rfl, _, rfl, ifS (fun n => absurd n (by decide +kernel)) (fun _ => W)⟩
    by_cases h102 : t[q]? = some 102
    · have ek : kindOf t q = "false" := Z9 h102;have W := word 102 _ h102 (.inr (.inr ek)) (by rw [ek]; rfl) (by rw [ek]; decide) (.inr (.inr rfl));rw [ek] at W ⊢;refine ⟨_, rfl, rfl, _, rfl, ifS (fun n => absurd n (by decide +kernel)) (fun _ => ?_)⟩;refine ⟨_, rfl, rfl, _, rfl, ifS (fun n => absurd n (by decide +kernel)) (fun _ => ?_)⟩;exact ⟨_, rfl, rfl, _, rfl, ifS (fun n => absurd n (by decide +kernel)) (fun _ => W)⟩
    have h6 : ∀ k, k = 34 \/ k = 91 \/ k = 123 \/ k = 110 \/ k = 116 \/ k = 102 -> ¬ t[q]? = some k := fun k hk => by rcases hk with rfl | rfl | rfl | rfl | rfl | rfl <;> assumption
    have ek : kindOf t q = "number" := kind_num h6;have hv : value (g + 1) d (t.drop q) = (Sv20.number (t.drop q)).map fun x => (Json.number x.1, x.2) := val_num h6
    rw [ek];refine ⟨_, rfl, rfl, _, rfl, ifS (fun n => absurd n (by decide +kernel)) (fun _ => ?_)⟩;refine ⟨_, rfl, rfl, _, rfl, ifS (fun n => absurd n (by decide +kernel)) (fun _ => ?_)⟩;refine ⟨_, rfl, rfl, _, rfl, ifS (fun _ => ?_) (fun n => absurd rfl n)⟩;refine ⟨_, rfl, r, dx, _, rfl, R.at_, rfl, dx, r, a, t, q, c, rfl, R, fun p1 en l H3 b3 hl kl R3 => ?_, fun en => no ?_⟩
    · obtain ⟨n1, n2⟩ := num_in en;by_cases hz : zero0 t q
      · obtain ⟨z1, z2⟩ := num_bad hz;rw [z1] at hv;have ep : p1 = num1 t q + 1 := Option.some.inj (en.symm.trans z2);exact (q1 hv).2 _ p1 _ H3 b3 R3 (by rw [ep]; exact hz.2)
      · have gd := num_good hz;rw [en] at gd;cases hn : Sv20.number (t.drop q) with
        | none => rw [hn] at gd; cases gd
        | some x =>
          rw [hn] at gd hv;have e2 : x.2 = t.drop p1 := Option.some.inj gd;obtain ⟨m1, m2⟩ := MN.number_app (x := x.1) (r := x.2) hn;have hv' : value (g + 1) d (t.drop q) = some (Json.number x.1, t.drop p1) := by rw [hv, <- e2]; rfl
          have ex : (t.drop q).take (p1 - q) = x.1 := by
            have hx : x.1.length = p1 - q := by
              have := congrArg List.length m1;rw [List.length_append, e2, List.length_drop, List.length_drop] at this;omega
            rw [<- m1, <- hx, List.take_left]
          rw [ex] at kl
          have hnl : x.1.length <= 100000 := by
            rw [<- ex, List.length_take, List.length_drop];omega
          refine q2 _ p1 hv' n2 n1 _ _ H3 (fun k _ => by rw [vi_one k (.inr (.inl ⟨_, rfl⟩))]) b3 (by rw [ek]; exact .num hl kl hnl m2) R3
    · by_cases hz : zero0 t q
      · rw [(num_bad hz).2] at en; cases en
      · have gd := num_good hz;rw [en] at gd;cases hn : Sv20.number (t.drop q) with
        | none => rw [hv, hn]; rfl
        | some x => rw [hn] at gd; cases gd
end
end J
namespace J
open PySem PySem.Spec PyProof.Rows L2 G Ex
open Sv20 (Json value items members valuesIn skip)
theorem isd_not {t : List Nat} {p : Nat} (h : isd (nb t p) = true) {z : Int} (hz : z = 44 \/ z = 93 \/ z = 125) : ¬ nb t p = z := fun e => by
  rw [e] at h;rcases hz with rfl | rfl | rfl <;> cases h
def Fl (H : Hp) (l : Addr) : Addr -> Prop := fun a => H a = none /\ a ≠ l
theorem fl_of {r l : Addr} {H H' : Hp} {o u : HO} (b : But r H H') (h : H' r = some o) (hl : H' l = some u) : ∀ a, Fr H' a -> Fl H l a := fun a ha => ⟨fr_but b h a ha, fun z => by
  have ha : H' a = none := ha;rw [z, hl] at ha;cases ha⟩
structure GoodA (K : PySem.W.Frag) (CR CV dx r a l : Addr) (t : List Nat) (H : Hp) (d gg q c p0 : Nat) (H' : Hp) (e' c' g' : Nat) (L : List Json) (vs : List V) : Prop where
  bt : But r H H'
  kl : H' l = some (.lst vs)
  va : VAs CV t (Fl H l) H' vs L
  nl : vs.length <= e'
  rt : Rat K CR dx r a t (sk t e') c' H'
  ee : e' <= t.length
  pe : p0 < e'
  es : arrS gg d t q = (if t[sk t e']? = some 44 then (items g' d (t.drop (sk t (sk t e' + 1)))).map (fun y => (L ++ y.1, y.2)) else if t[sk t e']? = some 93 then some (L, t.drop (sk t e' + 1)) else none)
  hg : 2 * (t.length - sk t e') <= g'
  hc : ∀ k, d < k -> c' = c + (L.map (valuesIn k)).sum
section
variable {P : Program} {w : World} {K : PySem.W.Frag} {mg : Str -> Option Value} {base : Heap} {CR CN CV aB aL aE aK : Addr} {as : List Addr}
theorem sc7 : z7 ["self", "kind", "around"] ["self", "kind", "around"] (y3 (inClass (top 24) 8)) := ⟨rfl, rfl, rfl, by decide +kernel, rfl, by decide +kernel, by decide +kernel⟩
theorem ok_nest {d k : Nat} {spA spO : Sp} {f : Addr} {fd : FuncData} (F : Fun K "read_nest" "Reader.read_nest" (inClass (top 24) 8) f fd) (T : Txt K mg CR CN aB) (T6 : Txt6 K mg CV aK) (CA : z9 P w K mg base (CXn P w CN) CR "read_array" k ["self", "around"] spA) (CO : z9 P w K mg base (CXn P w CN) CR "read_object" k ["self", "around"] spO)
    (hs : d = 0 \/ (spA = spArr K CR CN CV (d - 1) /\ spO = spObj K CR CN CV (d - 1))) : FnOk P w K mg base (CXn P w CN) (k + 1) f fd ["self", "kind", "around"] (spNest K CR CN CV d) := by
  refine okx F sc7 (fun vs H Q E h => ?_) (fun cdv A outer s H vs Q E hr h => ?_)
  · obtain ⟨dx, r, a, t, q, c, f, z, rfl, _⟩ := h;rfl
  · obtain ⟨dx, r, a, t, q, c, fu, kd, rfl, hz, R, hf, q1, q2⟩ := h
    refine ⟨_, w4 (j7 (j8 op_eq (pv 2) (x8 rfl T.deep) (j9 _)) (w8 (Y6 rfl rfl T.nj T.exc PySem.F.excBase_ValueError throws)) z0)
      (w4 (j7 (j8 op_eq (pv 1) (pe_gs rfl T6.ga) (j9 _)) (w8 (y6 (pm CA Q1 T.cl hr (pv 0) (w6 (y8 (op_val0 Z2) (pv 2) y2) w9)))) z0)
      (w8 (y6 (pm CO Q1 T.cl hr (pv 0) (w6 (y8 (op_val0 Z2) (pv 2) y2) w9))))), ?_⟩
    refine ⟨_, rfl, rfl, _, rfl, ?_⟩;refine ite2 (fun e => ?_) (fun e => ?_)
    · have e' := V.int.inj (of_decide_eq_true e);have d0 : d = 0 := by omega
      refine q1 ?_ H;rcases hz with ⟨_, ht⟩ | ⟨_, ht⟩
      · rw [val_arr ht, if_pos d0]
      · rw [val_obj ht, if_pos d0]
    · have d0 : ¬ d = 0 := fun y => e (decide_eq_true (by rw [y]; rfl))
      obtain ⟨rfl, rfl⟩ := hs.resolve_left d0;have ev : V.int (16 - (d : Int) + 1) = V.int (16 - ((d - 1 : Nat) : Int)) := by congr 1; omega
      rcases hz with ⟨rfl, ht⟩ | ⟨rfl, ht⟩
      · refine ⟨_, rfl, rfl, _, rfl, ifS (fun _ => ?_) (fun n => absurd rfl n)⟩;have hv := val_arr (f := fu) (d := d) ht;rw [if_neg d0] at hv;refine ⟨_, rfl, r, dx, _, rfl, R.at_, rfl, _, rfl, _, _, rfl, rfl, _, ev, dx, r, a, t, q, c, fu, rfl, ht, R, hf, fun en => q1 (by rw [hv, en]; rfl), fun l e' en h2 h3 v c' H' h4 b hi R' => ?_⟩;rw [en] at hv
        exact q2 (Json.array l) e' hv h2 h3 v c' H' (fun k hk => by
          obtain ⟨k', rfl⟩ : ∃ k', k = k' + 1 := ⟨k - 1, by omega⟩;rw [vi_array, h4 k' (by omega)]; omega) b hi R'
      · refine ⟨_, rfl, rfl, _, rfl, ifS (fun n => absurd n (by decide +kernel)) (fun _ => ?_)⟩;have hv := val_obj (f := fu) (d := d) ht;rw [if_neg d0] at hv;refine ⟨_, rfl, r, dx, _, rfl, R.at_, rfl, _, rfl, _, _, rfl, rfl, _, ev, dx, r, a, t, q, c, fu, rfl, ht, R, hf, fun en => q1 (by rw [hv, en]; rfl), fun l e' en h2 h3 v c' H' h4 b hi R' => ?_⟩;rw [en] at hv
        exact q2 (Json.object l) e' hv h2 h3 v c' H' (fun k hk => by
          obtain ⟨k', rfl⟩ : ∃ k', k = k' + 1 := ⟨k - 1, by omega⟩;rw [h4 k' (by omega)];exact Nat.add_assoc c _ 1) b hi R'
theorem sc8 : z7 ["self", "around", "values"] ["self", "around"] (y3 (inClass (top 24) 9)) := ⟨rfl, rfl, rfl, by decide +kernel, rfl, by decide +kernel, by decide +kernel⟩
theorem ok_array {d k : Nat} (hk : 3 <= k) {f : Addr} {fd : FuncData} (F : Fun K "read_array" "Reader.read_array" (inClass (top 24) 9) f fd) (T : Txt K mg CR CN aB) (C2 : z9 P w K mg base CX0 CR "passes" 2 ["self", "byte"] (Y0 K CR)) (C3 : z9 P w K mg base (CXn P w CN) CR "take" 3 ["self", "byte"] (spTake K CR CN)) (C4 : z9 P w K mg base CX0 CR "skip_blanks" 2 ["self"] (spSkip K CR))
    (CVa : z9 P w K mg base (CXn P w CN) CR "read_value" k ["self", "around"] (spVal K CR CN CV d)) : FnOk P w K mg base (CXn P w CN) (k + 1) f fd ["self", "around"] (spArr K CR CN CV d) := by
  refine okx F sc8 (fun vs H Q E h => ?_) (fun cdv A outer s H vs Q E hr h => ?_)
  · obtain ⟨dx, r, a, t, q, c, f, rfl, _⟩ := h;rfl
  · obtain ⟨dx, r, a, t, q, c, fu, rfl, ht, R, hf, q1, q2⟩ := h;have hr2 : Room 2 _ := hr.mono (by omega);have hr3 : Room 3 _ := hr.mono (by omega);have lz : sizeLine = 16777216 := rfl
    refine ⟨_, w4 (z6 (i := 2) sc8.nd rfl (Or.inl rfl) (W6 w9))
      (w4 (k8 (pm C3 Q1 T.cl hr3 (pv 0) (w6 (v7 (i := 91) rfl T.ord rfl rfl) w9)))
      (w4 (k8 (pm0 C4 j0 T.cl hr2 (pv 0)))
      (w4 (j7 (x5 (pm C2 j0 T.cl hr2 (pv 0) (w6 (v7 (i := 93) rfl T.ord rfl rfl) w9))) (w8 (y6 (pv 2))) z0)
      (w4 (k8 (pe_bm PySem.F.plainAttrs_list PySem.F.slot_list_append PySem.F.type_list_append mt_append (pv 2) (w6 (pm CVa Q1 T.cl hr (pv 0) (w6 (pv 1) w9)) w9)))
      (w4 (ps_while ownp (x5 (pm C2 j0 T.cl hr2 (pv 0) (w6 (v7 (i := 44) rfl T.ord rfl rfl) w9))) (w8 (k8 (pe_bm PySem.F.plainAttrs_list PySem.F.slot_list_append PySem.F.type_list_append mt_append (pv 2) (w6 (pm CVa Q1 T.cl hr (pv 0) (w6 (pv 1) w9)) w9)))))
      (w4 (k8 (pm C3 Q1 T.cl hr3 (pv 0) (w6 (v7 (i := 93) rfl T.ord rfl rfl) w9)))
      (w8 (y6 (pv 2))))))))), ?_⟩
    have hq := (List.getElem?_eq_some_iff.mp ht).1;have hlen := R.len;obtain ⟨s1, s2⟩ := sk_in (t := t) (p := q + 1) (by omega);have ss := sk_sk (t := t) (p := q + 1) (by omega);rw [List.length_drop] at hf;refine ⟨Nat.zero_le _, fun l hl => ?_⟩;have nrl : r ≠ l := y4 R.at_ hl;have b0 : But r H (upd H l (.lst [])) := fun b o e _ => by rw [y9 (y4 e hl)]; exact e
    have R0 : Rat K CR dx r a t q c (upd H l (.lst [])) := R.put b0 (by rw [y9 nrl]; exact R.at_);have k0 : (upd H l (.lst [])) l = some (.lst []) := y1;generalize upd H l (.lst []) = H0 at b0 R0 k0;refine ⟨_, rfl, r, dx, _, rfl, R0.at_, rfl, dx, r, a, t, q, c, 91, rfl, by decide, R0, fun e H1 b1 R1 => ?_, fun e => absurd (v9.mpr ht) e⟩;refine ⟨_, rfl, r, dx, _, rfl, R1.at_, rfl, dx, r, a, t, q + 1, c, rfl, R1, fun H2 b2 R2 => ?_⟩;have k2 : H2 l = some (.lst []) := b2 _ _ (b1 _ _ k0 nrl.symm) nrl.symm;have b02 : But r H H2 := (b0.trans b1).trans b2;have ea : arrS fu d t q = if t[sk t (q + 1)]? = some 93 then some ([], t.drop (sk t (q + 1) + 1)) else items fu d (t.drop (sk t (q + 1))) := rfl
    generalize sk t (q + 1) = s at *
    refine ⟨_, rfl, r, dx, _, rfl, R2.at_, rfl, dx, r, a, t, s, c, 93, rfl, by decide, R2, fun e2 H3 b3 R3 => ?_, fun e2 => ?_⟩
    · refine ⟨_, rfl, iteT ?_⟩;have h93 : t[s]? = some 93 := v9.mp e2;rw [if_pos h93] at ea;have := (List.getElem?_eq_some_iff.mp h93).1;exact ⟨_, rfl, q2 [] (s + 1) ea (by omega) (by omega) _ c H3 (fun k _ => rfl) (b02.trans b3) (.arr hl (b3 _ _ k2 nrl.symm) (Nat.zero_le _) .nil) R3⟩
    · refine ⟨_, rfl, iteF ?_⟩;rw [if_neg (fun y => e2 (v9.mpr y))] at ea;obtain ⟨g, rfl⟩ : ∃ g, fu = g + 1 := ⟨fu - 1, by omega⟩
      let Bad := fun (H' : Hp) => ∃ p' c', Rat K CR dx r a t p' c' H' /\ isd (nb t p') = true /\ arrS (g + 1) d t q = none
      have join : ∀ (p0 : Nat) (Hc H5 : Hp) (x : Json) (e5 c5 c' b5' g2 : Nat) (L : List Json) (vs : List V) (v : V), But r H Hc -> Rat K CR dx r a t p0 c' Hc -> Hc l = some (.lst vs) -> VAs CV t (Fl H l) Hc vs L -> vs.length < p0 -> q < p0 -> But r Hc H5 -> VA CV t (Fr Hc) H5 v x b5' e5 -> p0 < e5 -> e5 <= t.length -> Rat K CR dx r a t (sk t e5) c5 H5 -> (∀ k, d < k -> c' = c + (L.map (valuesIn k)).sum) -> (∀ k, d < k -> c5 = c' + valuesIn k x) ->
          arrS (g + 1) d t q = ((if t[sk t e5]? = some 44 then (items g2 d (t.drop (sk t (sk t e5 + 1)))).map (fun y => (x :: y.1, y.2)) else if t[sk t e5]? = some 93 then some ([x], t.drop (sk t e5 + 1)) else none : Option (List Json × List Nat)).map fun y => (L ++ y.1, y.2)) -> 2 * (t.length - sk t e5) <= g2 -> GoodA K CR CV dx r a l t H d (g + 1) q c p0 (upd H5 l (.lst (vs ++ [v]))) e5 c5 g2 (L ++ [x]) (vs ++ [v]) := by
        intro p0 Hc H5 x e5 c5 c' b5' g2 L vs v bc Rc kc hV hn hqp b5 hv h1 h2 R5 hc hc5 es hg;have k5 : H5 l = some (.lst vs) := b5 _ _ kc nrl.symm;have hu : ∀ a o, Fl H l a -> H5 a = some o -> (upd H5 l (.lst (vs ++ [v]))) a = some o := fun a o f e => by rw [y9 f.2]; exact e
        have bn : But r H (upd H5 l (.lst (vs ++ [v]))) := fun b o e n => by rw [y9 (y4 e hl)]; exact b5 b o (bc b o e n) n
        refine ⟨bn, y1, ?_, by rw [List.length_append]; show vs.length + 1 <= e5; omega, R.put bn (by rw [y9 nrl]; exact R5.at_), h2, h1, ?_, hg, fun k hk => ?_⟩
        · refine VAs.snoc (hv.mono (fl_of bc Rc.at_ kc) fun a o f e => hu a o (fl_of bc Rc.at_ kc a f) e) (hV.mono (fun _ f => f) fun a o f e => ?_);exact hu a o f (b5 a o e fun z => by have := f.1; rw [z, R.at_] at this; cases this)
        · rw [es];by_cases c1 : t[sk t e5]? = some 44
          · rw [if_pos c1, if_pos c1];cases items g2 d (t.drop (sk t (sk t e5 + 1))) with
            | none => rfl
            | some y => show some (L ++ x :: y.1, y.2) = some ((L ++ [x]) ++ y.1, y.2); rw [List.append_assoc]; rfl
          · rw [if_neg c1, if_neg c1];by_cases c2 : t[sk t e5]? = some 93
            · rw [if_pos c2, if_pos c2]; rfl
            · rw [if_neg c2, if_neg c2]; rfl
        · rw [hc5 k hk, hc k hk, List.map_append, List.sum_append];simp;omega
      have W0 : ∀ (H' : Hp), ((∃ e' c' g' L vs, GoodA K CR CV dx r a l t H d (g + 1) q c q H' e' c' g' L vs) \/ Bad H') ->
          tSeq (tWhile (tB (tMeth CR "passes" (Y0 K CR) [] E0 (tVar 0) (Q0 (tC (.int 44)) tNil))) (W9 (tBM K "list" rAppend (tVar 2) (Q0 (tMeth CR "read_value" (spVal K CR CN CV d) [] E (tVar 0) (Q0 (tVar 1) tNil)) tNil)))) (tSeq (W9 (tMeth CR "take" (spTake K CR CN) [] E (tVar 0) (Q0 (tC (.int 93)) tNil))) (tRet (tVar 2))) { nx := fun _ H' => Q .non H', rt := Q } [some (.ref r), some (.int (16 - (d : Int))), some (.ref l)] H' := by
        intro H00 hW;refine ⟨fun m σ H' => σ = [some (.ref r), some (.int (16 - (d : Int))), some (.ref l)] /\ ((∃ e' c' g' L vs, GoodA K CR CV dx r a l t H d (g + 1) q c q H' e' c' g' L vs /\ m = t.length + 1 - e') \/ (Bad H' /\ m = 0)), ?_, ?_⟩
        · rcases hW with ⟨e', c', g', L, vs, h1⟩ | h1
          · exact ⟨_, rfl, .inl ⟨e', c', g', L, vs, h1, rfl⟩⟩
          · exact ⟨0, rfl, .inr ⟨h1, rfl⟩⟩
        rintro m σ H3 ⟨rfl, ⟨e', c', g', L, vs, ⟨b3, kl, hV, hn, R3, he', hqe, es, hg, hc⟩, rfl⟩ | ⟨⟨p', c', R3, hd, en⟩, rfl⟩⟩
        · obtain ⟨v1, v2⟩ := sk_in he';refine ⟨_, rfl, r, dx, _, rfl, R3.at_, rfl, dx, r, a, t, sk t e', c', 44, rfl, by decide, R3, fun e3 H4 b4 R4 => ?_, fun e3 => ?_⟩
          · refine ⟨_, rfl, iteT ?_⟩;have h44 : t[sk t e']? = some 44 := v9.mp e3;have hpl := (List.getElem?_eq_some_iff.mp h44).1;rw [if_pos h44] at es;obtain ⟨g2, rfl⟩ : ∃ g2, g' = g2 + 1 := ⟨g' - 1, by omega⟩;obtain ⟨u1, u2⟩ := sk_in (t := t) (p := sk t e' + 1) (by omega);have kl4 : H4 l = some (.lst vs) := b4 _ _ kl nrl.symm;refine ⟨fun σ' H' => σ' = [some (.ref r), some (.int (16 - (d : Int))), some (.ref l)] /\ ((∃ e2 c2 g3 L2 vs2, GoodA K CR CV dx r a l t H d (g + 1) q c (sk t e' + 1) H' e2 c2 g3 L2 vs2) \/ Bad H'), fun σ' H' hN' => ?_, ?_⟩
            · obtain ⟨rfl, ⟨e2, c2, g3, L2, vs2, h1, h2, h3, h3', h4, h5, h6, h7, h8, h9⟩ | h1⟩ := hN'
              · exact ⟨t.length + 1 - e2, by omega, rfl, .inl ⟨e2, c2, g3, L2, vs2, ⟨h1, h2, h3, h3', h4, h5, by omega, h7, h8, h9⟩, rfl⟩⟩
              · exact ⟨0, by omega, rfl, .inr ⟨h1, rfl⟩⟩
            refine ⟨_, rfl, .inl ⟨rfl, _, SqL.of kl4⟩, _, rfl, r, dx, _, rfl, R4.at_, rfl, _, rfl, dx, r, a, t, sk t e' + 1, c', g2, rfl, R4, by omega, by rw [List.length_drop]; omega, fun hv => ⟨?_, fun v p2 c2 H5 b5 R5 hd => ?_⟩, fun x e5 hv k1 k2 v c5 H5 k4 b5 hva R5 => ?_⟩
            · exact q1 (by rw [es, items_none hv]; rfl)
            · have en : arrS (g + 1) d t q = none := by rw [es, items_none hv]; rfl
              refine ⟨l, _, _, rfl, rfl, b5 _ _ kl4 nrl.symm, by omega, rfl, .inr ⟨p2, c2, ?_, hd, en⟩⟩;exact R.put (fun b o e n => by rw [y9 (y4 e hl)]; exact b5 b o (b4 b o (b3 b o e n) n) n) (by rw [y9 nrl]; exact R5.at_)
            · refine ⟨l, _, _, rfl, rfl, b5 _ _ kl4 nrl.symm, by omega, rfl, .inl ⟨e5, c5, g2, L ++ [x], vs ++ [v], ?_⟩⟩;obtain ⟨w1, w2⟩ := sk_in k1;refine join (sk t e' + 1) H4 H5 x e5 c5 c' _ g2 L vs v (b3.trans b4) R4 kl4 (hV.mono (fun _ f => f) fun a o f e => b4 a o e fun z => by have := f.1; rw [z, R.at_] at this; cases this) (by omega) (by omega) b5 hva (by omega) k1 R5 hc k4 ?_ (by omega);rw [es, items_some hv (W8 t e5).symm]
          · refine ⟨_, rfl, iteF ?_⟩;rw [if_neg (fun y => e3 (v9.mpr y))] at es;refine ⟨_, rfl, r, dx, _, rfl, R3.at_, rfl, dx, r, a, t, sk t e', c', 93, rfl, by decide, R3, fun e4 H4 b4 R4 => ?_, fun e4 => q1 (by rw [es, if_neg (fun y => e4 (v9.mpr y))])⟩;have h93 : t[sk t e']? = some 93 := v9.mp e4;have hpl := (List.getElem?_eq_some_iff.mp h93).1;rw [if_pos h93] at es;exact ⟨_, rfl, q2 L (sk t e' + 1) es (by omega) (by omega) _ c' H4 hc (b3.trans b4) (.arr hl (b4 _ _ kl nrl.symm) (by omega) (hV.mono (fun _ f => f.1) fun a o f e => b4 a o e fun z => by have := f.1; rw [z, R.at_] at this; cases this)) R4⟩
        · refine ⟨_, rfl, r, dx, _, rfl, R3.at_, rfl, dx, r, a, t, p', c', 44, rfl, by decide, R3, fun e3 => absurd e3 (isd_not hd (.inl rfl)), fun e3 => ?_⟩;refine ⟨_, rfl, iteF ?_⟩;exact ⟨_, rfl, r, dx, _, rfl, R3.at_, rfl, dx, r, a, t, p', c', 93, rfl, by decide, R3, fun e4 => absurd e4 (isd_not hd (.inr (.inl rfl))), fun e4 => q1 en⟩
      refine ⟨_, rfl, .inl ⟨rfl, _, SqL.of k2⟩, _, rfl, r, dx, _, rfl, R2.at_, rfl, _, rfl, dx, r, a, t, s, c, g, rfl, R2, s2, by rw [ss, List.length_drop]; omega, fun hv => ⟨?_, fun v p2 c2 H5 b5 R5 hd => ?_⟩, fun x e5 hv k1 k3 v c5 H5 k4 b5 hva R5 => ?_⟩
      · rw [ss] at hv;exact q1 (by rw [ea, items_none hv])
      · rw [ss] at hv;have en : arrS (g + 1) d t q = none := by rw [ea, items_none hv]
        refine ⟨l, _, _, rfl, rfl, b5 _ _ k2 nrl.symm, (by show 0 < sizeLine; decide), W0 _ (.inr ⟨p2, c2, ?_, hd, en⟩)⟩;exact R.put (fun b o e n => by rw [y9 (y4 e hl)]; exact b5 b o (b02 b o e n) n) (by rw [y9 nrl]; exact R5.at_)
      · rw [ss] at hv k3;obtain ⟨w1, w2⟩ := sk_in k1;refine ⟨l, _, _, rfl, rfl, b5 _ _ k2 nrl.symm, (by show 0 < sizeLine; decide), W0 _ (.inl ⟨e5, c5, g, [x], [v], ?_⟩)⟩;have J := join s H2 H5 x e5 c5 c _ g [] [] v b02 R2 k2 .nil (by show 0 < s; omega) (by omega) b5 hva (by omega) k1 R5 (fun k _ => rfl) k4 ?_ (by omega)
        · obtain ⟨h1, h2, h3, h3', h4, h5, h6, h7, h8, h9⟩ := J;exact ⟨h1, h2, h3, h3', h4, h5, by omega, h7, h8, h9⟩
        · rw [ea, items_some hv (W8 t e5).symm];generalize (if t[sk t e5]? = some 44 then _ else _ : Option (List Json × List Nat)) = o;cases o <;> rfl
end
end J
namespace J
open PySem PySem.Spec PyProof.Rows L2 G Ex
open Sv20 (Json value items members valuesIn skip)
def But2 (r N : Addr) (H H' : Hp) : Prop := ∀ b o, H b = some o -> b ≠ r -> b ≠ N -> H' b = some o
theorem Rat.put2 {K : PySem.W.Frag} {CR dx r a N : Addr} {t : List Nat} {p c q d : Nat} {H H' : Hp} {kvs : List (List Key × V)} (x : Rat K CR dx r a t p c H) (s : But2 r N H H') (hN : H N = some (.dT kvs)) (e : H' r = some (.ins CR dx (rf a q d))) : Rat K CR dx r a t q d H' := by
  refine ⟨e, ?_, x.len, x.byt⟩;have er := x.at_;rcases x.txt with (h | ⟨o, h⟩) | h
  · exact .inl (.inl (s _ _ h (fun z => by rw [z, er] at h; cases h) (fun z => by rw [z, hN] at h; cases h)))
  · exact .inl (.inr ⟨o, s _ _ h (fun z => by rw [z, er] at h; cases h) (fun z => by rw [z, hN] at h; cases h)⟩)
  · exact .inr h
section
variable (K : PySem.W.Frag) (CR CN CV : Addr)
def spMem (d : Nat) : Sp := fun vs H Q E => ∃ dx r a t p c f N kvs, vs = [.ref r, .int (16 - (d : Int)), .ref N] /\ N ≠ r /\ H N = some (.dT kvs) /\ kvs.length <= 100000 /\ Rat K CR dx r a t p c H /\ p <= t.length /\ 2 * (t.drop (sk t p)).length + 1 <= f /\
  (memS f d (t.drop (sk t p)) = none -> (∀ H', E (.ref CN) none H') /\ ∀ p' c' H', Rat K CR dx r a t p' c' H' -> isd (nb t p') = true -> Q .non H') /\
  (∀ m rest, memS f d (t.drop (sk t p)) = some (m, rest) -> (valV kvs (kOf m.1)).isSome = true -> ∀ H', E (.ref CN) none H') /\
  (∀ m e, memS f d (t.drop (sk t p)) = some (m, t.drop e) -> valV kvs (kOf m.1) = none -> e <= t.length -> p < e -> ∀ v b c' H', (∀ k, d < k -> c' = c + valuesIn k m.2.2) -> But2 r N H H' -> H' N = some (.dT (kvs ++ [(kOf m.1, v)])) -> VA CV t (Fr H) H' v m.2.2 b e -> b <= e -> (t.drop b).take (e - b) = m.2.1 -> Rat K CR dx r a t (sk t e) c' H' -> Q .non H')
end
theorem memS_col {t : List Nat} {s p1 f d : Nat} {x : List Nat} (h : t[s]? = some 34) (hs : Sv20.string ((t.drop (s + 1)).length + 1) (t.drop (s + 1)) = some (x, t.drop p1)) : memS f d (t.drop s) =
    if t[sk t p1]? = some 58 then (value f d (t.drop (sk t (sk t p1 + 1)))).map (fun y => ((x, (t.drop (sk t (sk t p1 + 1))).take ((t.drop (sk t (sk t p1 + 1))).length - y.2.length), y.1), y.2)) else none := by
  rw [memS_at h, hs];show (match skip (t.drop p1) with | 58 :: u => _ | _ => none) = _;rw [W8];by_cases c : t[sk t p1]? = some 58
  · rw [if_pos c, drop_cons c];show (value f d (skip (t.drop (sk t p1 + 1)))).map _ = _;rw [W8]
  · rw [if_neg c]
    split
    · rename_i e; exact absurd (by rw [<- head_drop, e]; rfl) c
    · rfl
section
variable {P : Program} {w : World} {K : PySem.W.Frag} {mg : Str -> Option Value} {base : Heap} {CR CN CV aB aL aE aK : Addr} {as : List Addr}
theorem sc10 : z7 ["self", "around", "members", "name"] ["self", "around", "members"] (y3 (inClass (top 24) 11)) := ⟨rfl, rfl, rfl, by decide +kernel, rfl, by decide +kernel, by decide +kernel⟩
theorem ok_member {d k : Nat} (hk : 6 <= k) {f : Addr} {fd : FuncData} (F : Fun K "read_member" "Reader.read_member" (inClass (top 24) 11) f fd) (T : Txt K mg CR CN aB) (C3 : z9 P w K mg base (CXn P w CN) CR "take" 3 ["self", "byte"] (spTake K CR CN)) (C4 : z9 P w K mg base CX0 CR "skip_blanks" 2 ["self"] (spSkip K CR))
    (CSt : z9 P w K mg base (CXn P w CN) CR "read_string" 6 ["self"] (spStr K CR CN)) (CVa : z9 P w K mg base (CXn P w CN) CR "read_value" k ["self", "around"] (spVal K CR CN CV d)) : FnOk P w K mg base (CXn P w CN) (k + 1) f fd ["self", "around", "members"] (spMem K CR CN CV d) := by
  refine okx F sc10 (fun vs H Q E h => ?_) (fun cdv A outer s H vs Q E hr h => ?_)
  · obtain ⟨dx, r, a, t, p, c, f, N, ks, rfl, _⟩ := h;rfl
  · obtain ⟨dx, r, a, t, p, c, fu, N, kvs, rfl, nN, hN, hks, R, hp, hf, q1, q2, q3⟩ := h;have hr2 : Room 2 _ := hr.mono (by omega);have hr3 : Room 3 _ := hr.mono (by omega);have hr6 : Room 6 _ := hr.mono (by omega);have hu := hu_of hr;have lz : sizeLine = 16777216 := rfl
    refine ⟨_, w4 (k8 (pm0 C4 j0 T.cl hr2 (pv 0)))
      (w4 (z6 (i := 3) sc10.nd rfl (Or.inl rfl) (pe_callTy call_tuple_of rfl T.tup PyProof.Rows.boot_tuple (w6 (pm0 CSt Q1 T.cl hr6 (pv 0)) w9)))
      (w4 (j7 (W2 (pc_din hu (pv 3) (pv 2))) (w8 (Y6 rfl rfl T.nj T.exc PySem.F.excBase_ValueError throws)) z0)
      (w4 (k8 (pm0 C4 j0 T.cl hr2 (pv 0)))
      (w4 (k8 (pm C3 Q1 T.cl hr3 (pv 0) (w6 (v7 (i := 58) rfl T.ord rfl rfl) w9)))
      (w8 (ps_dput hu (pv 2) (pv 3) (pm CVa Q1 T.cl hr (pv 0) (w6 (pv 1) w9)) rfl)))))), ?_⟩
    obtain ⟨s1, s2⟩ := sk_in hp;refine ⟨_, rfl, r, dx, _, rfl, R.at_, rfl, dx, r, a, t, p, c, rfl, R, fun H1 b1 R1 => ?_⟩;have hN1 := b1 _ _ hN nN;generalize sk t p = s at *
    rw [List.length_drop] at hf;refine ⟨_, rfl, r, dx, _, rfl, R1.at_, rfl, dx, r, a, t, s, c, rfl, R1, fun e => (q1 (memS_no e)).1, fun h34 => ⟨fun e => (q1 (by rw [memS_at h34, e]; rfl)).1, fun x p1 hs k1 k2 k3 l H2 b2 hl kl R2 => ?_⟩⟩;have hm := memS_col (f := fu) (d := d) h34 hs;have hN2 := b2 _ _ hN1 nN;refine ⟨l, _, rfl, .inl ⟨SqL.of kl, fun tp htp => ?_⟩⟩;have nrt : r ≠ tp := y4 R2.at_ htp;have nNt : N ≠ tp := y4 hN2 htp;have b3 : But r H2 (upd H2 tp (.tup (nv x))) := fun b o e _ => by rw [y9 (y4 e htp)]; exact e
    have R3 : Rat K CR dx r a t p1 c (upd H2 tp (.tup (nv x))) := R2.put b3 (by rw [y9 nrt]; exact R2.at_);have hN3 : (upd H2 tp (.tup (nv x))) N = some (.dT kvs) := b3 _ _ hN2 nN;have htup : (upd H2 tp (.tup (nv x))) tp = some (.tup ((kOf x).map kV)) := by rw [y1, kOf_kV]
    have b03 : But r H (upd H2 tp (.tup (nv x))) := (b1.trans b2).trans b3;generalize upd H2 tp (.tup (nv x)) = H3 at b3 R3 hN3 htup b03;refine ⟨_, rfl, _, rfl, N, _, rfl, DGet.t (k := kOf x) hN3 htup, _, rfl, ?_⟩;cases hv : valV kvs (kOf x) with
    | some v =>
      refine iteT ?_;cases hms : memS fu d (t.drop s) with
      | none => exact (q1 hms).1 H3
      | some mr =>
        obtain ⟨m, rest⟩ := mr
        have em : m.1 = x := by
          rw [hm] at hms;by_cases cc : t[sk t p1]? = some 58
          · rw [if_pos cc] at hms;cases hvv : value fu d (t.drop (sk t (sk t p1 + 1))) with
            | none => rw [hvv] at hms; cases hms
            | some y => rw [hvv] at hms; have := (Prod.mk.inj (Option.some.inj hms)).1; rw [<- this]
          · rw [if_neg cc] at hms; cases hms
        exact q2 m rest hms (by rw [em, hv]; rfl) H3
    | none =>
      refine iteF ?_;have hlen : kvs.length < sizeLine := by omega
      obtain ⟨u1, u2⟩ := sk_in k2;refine ⟨_, rfl, r, dx, _, rfl, R3.at_, rfl, dx, r, a, t, p1, c, rfl, R3, fun H5 b5 R5 => ?_⟩;refine ⟨_, rfl, r, dx, _, rfl, R5.at_, rfl, dx, r, a, t, sk t p1, c, 58, rfl, by decide, R5, fun e5 H6 b6 R6 => ?_, fun e5 => (q1 (by rw [hm, if_neg (fun y => e5 (v9.mpr y))])).1⟩;have h58 : t[sk t p1]? = some 58 := v9.mp e5;have h58l := (List.getElem?_eq_some_iff.mp h58).1;rw [if_pos h58] at hm;obtain ⟨w1, w2⟩ := sk_in (t := t) (p := sk t p1 + 1) (by omega);have b36 : But r H3 H6 := b5.trans b6;have b06 : But r H H6 := b03.trans b36;have hN6 : H6 N = some (.dT kvs) := b36 _ _ hN3 nN;have ht6 : H6 tp = some (.tup ((kOf x).map kV)) := b36 _ _ htup nrt.symm;refine ⟨_, rfl, r, dx, _, rfl, R6.at_, rfl, _, rfl, dx, r, a, t, sk t p1 + 1, c, fu, rfl, R6, by omega, by rw [List.length_drop]; omega, fun hvv => ⟨(q1 (by rw [hm, hvv]; rfl)).1, fun v p7 c7 H7 b7 R7 hd => ?_⟩, fun y e7 hvv j1 j2 v c7 H7 j4 b7 hva R7 => ?_⟩
      · have hN7 := b7 _ _ hN6 nN;refine ⟨_, rfl, _, rfl, N, _, rfl, DPut.t (k := kOf x) hN7 (b7 _ _ ht6 nrt.symm) hlen, ?_⟩;exact (q1 (by rw [hm, hvv]; rfl)).2 p7 c7 _ (R7.put2 (N := N) (fun b o e _ n => by rw [y9 n]; exact e) hN7 (by rw [y9 (Ne.symm nN)]; exact R7.at_)) hd
      · have hN7 := b7 _ _ hN6 nN;refine ⟨_, rfl, _, rfl, N, _, rfl, DPut.t (k := kOf x) hN7 (b7 _ _ ht6 nrt.symm) hlen, ?_⟩;rw [putK_new _ hv];rw [hvv] at hm
        have nu : ∀ a, Fr H6 a -> a ≠ N := fun a f z => by
          have f : H6 a = none := f;rw [z, hN6] at f;cases f
        refine q3 (x, _, y) e7 hm hv j1 (by omega) v (sk t (sk t p1 + 1)) c7 _ j4 (fun b o e n1 n2 => by rw [y9 n2]; exact b7 b o (b06 b o e n1) n1) y1 (hva.mono (fr_but b06 R6.at_) fun a o f e => by rw [y9 (nu a f)]; exact e) (by omega) ?_ (R7.put2 (N := N) (fun b o e _ n => by rw [y9 n]; exact e) hN7 (by rw [y9 (Ne.symm nN)]; exact R7.at_));show _ = (t.drop (sk t (sk t p1 + 1))).take ((t.drop (sk t (sk t p1 + 1))).length - (t.drop e7).length);rw [List.length_drop, List.length_drop]
        congr 1
        omega
def ndup (x : List Mem × List Nat) : Option (List Mem × List Nat) := if (x.1.map fun m => m.1).Nodup then some x else none
theorem dup_no {L : List Mem} {m : Mem} {y : List Mem} (h : m.1 ∈ L.map fun m => m.1) : ¬ ((L ++ m :: y).map fun m => m.1).Nodup := by
  rw [List.map_append, List.map_cons];intro z;have := (List.nodup_append.mp z).2.2;exact this m.1 h m.1 (by simp) rfl
structure GoodO (K : PySem.W.Frag) (CR CV dx r a N : Addr) (t : List Nat) (H : Hp) (d gg q c p0 : Nat) (H' : Hp) (e' c' g' : Nat) (L : List Mem) (kvs : List (List Key × V)) : Prop where
  bt : But r H H'
  kn : H' N = some (.dT kvs)
  vm : VMs CV t (Fl H N) H' kvs L
  nd : (L.map fun m => m.1).Nodup
  nl : L.length <= e'
  rt : Rat K CR dx r a t (sk t e') c' H'
  ee : e' <= t.length
  pe : p0 < e'
  es : objS gg d t q = (if t[sk t e']? = some 44 then (members g' d (t.drop (sk t (sk t e' + 1)))).map (fun y => (L ++ y.1, y.2)) else if t[sk t e']? = some 125 then some (L, t.drop (sk t e' + 1)) else none : Option (List Mem × List Nat)).bind ndup
  hg : 2 * (t.length - sk t e') + 1 <= g'
  hc : ∀ k, d < k -> c' = c + (L.map fun m => valuesIn k m.2.2).sum
theorem sc9 : z7 ["self", "around", "members"] ["self", "around"] (y3 (inClass (top 24) 10)) := ⟨rfl, rfl, rfl, by decide +kernel, rfl, by decide +kernel, by decide +kernel⟩
theorem ok_object {d k : Nat} (hk : 3 <= k) {f : Addr} {fd : FuncData} (F : Fun K "read_object" "Reader.read_object" (inClass (top 24) 10) f fd) (T : Txt K mg CR CN aB) (C2 : z9 P w K mg base CX0 CR "passes" 2 ["self", "byte"] (Y0 K CR)) (C3 : z9 P w K mg base (CXn P w CN) CR "take" 3 ["self", "byte"] (spTake K CR CN)) (C4 : z9 P w K mg base CX0 CR "skip_blanks" 2 ["self"] (spSkip K CR))
    (CM : z9 P w K mg base (CXn P w CN) CR "read_member" k ["self", "around", "members"] (spMem K CR CN CV d)) : FnOk P w K mg base (CXn P w CN) (k + 1) f fd ["self", "around"] (spObj K CR CN CV d) := by
  refine okx F sc9 (fun vs H Q E h => ?_) (fun cdv A outer s H vs Q E hr h => ?_)
  · obtain ⟨dx, r, a, t, q, c, f, rfl, _⟩ := h;rfl
  · obtain ⟨dx, r, a, t, q, c, fu, rfl, ht, R, hf, q1, q2⟩ := h;have hr2 : Room 2 _ := hr.mono (by omega);have hr3 : Room 3 _ := hr.mono (by omega)
    refine ⟨_, w4 (z6 (i := 2) sc9.nd rfl (Or.inl rfl) pe_dnewT)
      (w4 (k8 (pm C3 Q1 T.cl hr3 (pv 0) (w6 (v7 (i := 123) rfl T.ord rfl rfl) w9)))
      (w4 (k8 (pm0 C4 j0 T.cl hr2 (pv 0)))
      (w4 (j7 (x5 (pm C2 j0 T.cl hr2 (pv 0) (w6 (v7 (i := 125) rfl T.ord rfl rfl) w9))) (w8 (y6 (pv 2))) z0)
      (w4 (k8 (pm CM Q1 T.cl hr (pv 0) (w6 (pv 1) (w6 (pv 2) w9))))
      (w4 (ps_while ownp (x5 (pm C2 j0 T.cl hr2 (pv 0) (w6 (v7 (i := 44) rfl T.ord rfl rfl) w9))) (w8 (k8 (pm CM Q1 T.cl hr (pv 0) (w6 (pv 1) (w6 (pv 2) w9))))))
      (w4 (k8 (pm C3 Q1 T.cl hr3 (pv 0) (w6 (v7 (i := 125) rfl T.ord rfl rfl) w9)))
      (w8 (y6 (pv 2))))))))), ?_⟩
    have hq := (List.getElem?_eq_some_iff.mp ht).1;have hlen := R.len;obtain ⟨s1, s2⟩ := sk_in (t := t) (p := q + 1) (by omega);have ss := sk_sk (t := t) (p := q + 1) (by omega);rw [List.length_drop] at hf;intro N hN;have nN : N ≠ r := fun z => by rw [z, R.at_] at hN; cases hN
    have b0 : But r H (upd H N (.dT [])) := fun b o e _ => by rw [y9 (y4 e hN)]; exact e
    have R0 : Rat K CR dx r a t q c (upd H N (.dT [])) := R.put b0 (by rw [y9 (Ne.symm nN)]; exact R.at_);have k0 : (upd H N (.dT [])) N = some (.dT []) := y1;generalize upd H N (.dT []) = H0 at b0 R0 k0;refine ⟨_, rfl, r, dx, _, rfl, R0.at_, rfl, dx, r, a, t, q, c, 123, rfl, by decide, R0, fun e H1 b1 R1 => ?_, fun e => absurd (v9.mpr ht) e⟩;refine ⟨_, rfl, r, dx, _, rfl, R1.at_, rfl, dx, r, a, t, q + 1, c, rfl, R1, fun H2 b2 R2 => ?_⟩;have k2' : H2 N = some (.dT []) := b2 _ _ (b1 _ _ k0 nN) nN;have ea : objS fu d t q = if t[sk t (q + 1)]? = some 125 then some ([], t.drop (sk t (q + 1) + 1)) else (members fu d (t.drop (sk t (q + 1)))).bind ndup := rfl
    generalize sk t (q + 1) = s at *
    have b02 : But r H H2 := (b0.trans b1).trans b2;have ner : ∀ a, H a = none -> a ≠ r := fun a f z => by rw [z, R.at_] at f; cases f
    refine ⟨_, rfl, r, dx, _, rfl, R2.at_, rfl, dx, r, a, t, s, c, 125, rfl, by decide, R2, fun e2 H3 b3 R3 => ?_, fun e2 => ?_⟩
    · refine ⟨_, rfl, iteT ?_⟩;have h125 : t[s]? = some 125 := v9.mp e2;rw [if_pos h125] at ea;have := (List.getElem?_eq_some_iff.mp h125).1;exact ⟨_, rfl, q2 [] (s + 1) ea (by omega) (by omega) _ c H3 (fun k _ => rfl) (b02.trans b3) (.obj hN (b3 _ _ k2' nN) .nil) R3⟩
    · refine ⟨_, rfl, iteF ?_⟩;rw [if_neg (fun y => e2 (v9.mpr y))] at ea;obtain ⟨g, rfl⟩ : ∃ g, fu = g + 1 := ⟨fu - 1, by omega⟩
      let Bad := fun (H' : Hp) => ∃ p' c', Rat K CR dx r a t p' c' H' /\ isd (nb t p') = true /\ objS (g + 1) d t q = none
      have step : ∀ (L : List Mem) (m : Mem) (g2 p2 : Nat) (rest : List Nat) (b : List Nat), memS g2 d b = some (m, rest) -> t.drop p2 = skip rest -> (members (g2 + 1) d b).map (fun y => (L ++ y.1, y.2)) = (if t[p2]? = some 44 then (members g2 d (t.drop (sk t (p2 + 1)))).map (fun y => ((L ++ [m]) ++ y.1, y.2)) else if t[p2]? = some 125 then some (L ++ [m], t.drop (p2 + 1)) else none : Option (List Mem × List Nat)) := by
        intro L m g2 p2 rest b hms hp2;rw [mem_some hms hp2];by_cases c1 : t[p2]? = some 44
        · rw [if_pos c1, if_pos c1];cases members g2 d (t.drop (sk t (p2 + 1))) with
          | none => rfl
          | some y => show some (L ++ m :: y.1, y.2) = some ((L ++ [m]) ++ y.1, y.2); rw [List.append_assoc]; rfl
        · rw [if_neg c1, if_neg c1];by_cases c2 : t[p2]? = some 125
          · rw [if_pos c2, if_pos c2]; rfl
          · rw [if_neg c2, if_neg c2]; rfl
      have dupE : ∀ (L : List Mem) (m : Mem) (g2 p2 : Nat) (rest : List Nat) (b : List Nat), memS g2 d b = some (m, rest) -> m.1 ∈ (L.map fun m => m.1) -> ((members (g2 + 1) d b).map (fun y => (L ++ y.1, y.2)) : Option (List Mem × List Nat)).bind ndup = none := by
        intro L m g2 p2 rest b hms hin;cases hmm : members (g2 + 1) d b with
        | none => rfl
        | some y =>
          have hy : ∃ y', y.1 = m :: y' := by
            have e3 := mem_some (t := skip rest) (p := 0) hms (by rw [List.drop_zero]);rw [hmm] at e3;by_cases c1 : (skip rest)[0]? = some 44
            · rw [if_pos c1] at e3;cases hm2 : members g2 d ((skip rest).drop (sk (skip rest) (0 + 1))) with
              | none => rw [hm2] at e3; cases e3
              | some z => rw [hm2] at e3; exact ⟨z.1, by rw [Option.some.inj e3]⟩
            · rw [if_neg c1] at e3;by_cases c2 : (skip rest)[0]? = some 125
              · rw [if_pos c2] at e3; exact ⟨[], by rw [Option.some.inj e3]⟩
              · rw [if_neg c2] at e3; cases e3
          obtain ⟨y', hy⟩ := hy;show ndup (L ++ y.1, y.2) = none;unfold ndup;rw [if_neg];show ¬ ((L ++ y.1).map fun m => m.1).Nodup;rw [hy];exact dup_no hin
      have join : ∀ (p0 : Nat) (Hc H5 : Hp) (m : Mem) (e5 c5 c' b5' g2 : Nat) (L : List Mem) (kvs : List (List Key × V)) (v : V), But r H Hc -> Rat K CR dx r a t p0 c' Hc -> Hc N = some (.dT kvs) -> VMs CV t (Fl H N) Hc kvs L -> (L.map fun m => m.1).Nodup -> L.length < p0 -> valV kvs (kOf m.1) = none -> But2 r N Hc H5 -> H5 N = some (.dT (kvs ++ [(kOf m.1, v)])) -> VA CV t (Fr Hc) H5 v m.2.2 b5' e5 -> b5' <= e5 -> (t.drop b5').take (e5 - b5') = m.2.1 -> p0 < e5 -> e5 <= t.length -> Rat K CR dx r a t (sk t e5) c5 H5 -> (∀ k, d < k -> c' = c + (L.map fun m => valuesIn k m.2.2).sum) -> (∀ k, d < k -> c5 = c' + valuesIn k m.2.2) ->
          objS (g + 1) d t q = (if t[sk t e5]? = some 44 then (members g2 d (t.drop (sk t (sk t e5 + 1)))).map (fun y => ((L ++ [m]) ++ y.1, y.2)) else if t[sk t e5]? = some 125 then some (L ++ [m], t.drop (sk t e5 + 1)) else none : Option (List Mem × List Nat)).bind ndup -> 2 * (t.length - sk t e5) + 1 <= g2 -> GoodO K CR CV dx r a N t H d (g + 1) q c p0 H5 e5 c5 g2 (L ++ [m]) (kvs ++ [(kOf m.1, v)]) := by
        intro p0 Hc H5 m e5 c5 c' b5' g2 L kvs v bc Rc kc hV nd hn hin b5 k5 hva g1 g3 h1 h2 R5 hc hc5 es hg;have bn : But r H H5 := fun b o e n => b5 b o (bc b o e n) n (y4 e hN)
        refine ⟨bn, k5, ?_, ?_, by rw [List.length_append]; show L.length + 1 <= e5; omega, R5, h2, h1, es, hg, fun k hk => ?_⟩
        · refine VMs.snoc (hva.mono (fl_of bc Rc.at_ kc) fun a o f e => e) g1 h2 g3 (hV.mono (fun _ f => f) fun a o f e => b5 a o e (ner a f.1) f.2)
        · rw [List.map_append];exact nd_snoc nd (keys_out hV hin)
        · rw [hc5 k hk, hc k hk, List.map_append, List.sum_append];show c + _ + valuesIn k m.2.2 = c + (_ + (valuesIn k m.2.2 + 0));omega
      have W0 : ∀ (H' : Hp), ((∃ e' c' g' L kvs, GoodO K CR CV dx r a N t H d (g + 1) q c q H' e' c' g' L kvs) \/ Bad H') ->
          tSeq (tWhile (tB (tMeth CR "passes" (Y0 K CR) [] E0 (tVar 0) (Q0 (tC (.int 44)) tNil))) (W9 (tMeth CR "read_member" (spMem K CR CN CV d) [] E (tVar 0) (Q0 (tVar 1) (Q0 (tVar 2) tNil))))) (tSeq (W9 (tMeth CR "take" (spTake K CR CN) [] E (tVar 0) (Q0 (tC (.int 125)) tNil))) (tRet (tVar 2))) { nx := fun _ H' => Q .non H', rt := Q } [some (.ref r), some (.int (16 - (d : Int))), some (.ref N)] H' := by
        intro H00 hW;refine ⟨fun m σ H' => σ = [some (.ref r), some (.int (16 - (d : Int))), some (.ref N)] /\ ((∃ e' c' g' L kvs, GoodO K CR CV dx r a N t H d (g + 1) q c q H' e' c' g' L kvs /\ m = t.length + 1 - e') \/ (Bad H' /\ m = 0)), ?_, ?_⟩
        · rcases hW with ⟨e', c', g', L, kvs, h1⟩ | h1
          · exact ⟨_, rfl, .inl ⟨e', c', g', L, kvs, h1, rfl⟩⟩
          · exact ⟨0, rfl, .inr ⟨h1, rfl⟩⟩
        rintro m σ H3 ⟨rfl, ⟨e', c', g', L, kvs, ⟨b3, kN, hV, nd, hL, R3, he', hqe, es, hg, hc⟩, rfl⟩ | ⟨⟨p', c', R3, hd, en⟩, rfl⟩⟩
        · obtain ⟨v1, v2⟩ := sk_in he';refine ⟨_, rfl, r, dx, _, rfl, R3.at_, rfl, dx, r, a, t, sk t e', c', 44, rfl, by decide, R3, fun e3 H4 b4 R4 => ?_, fun e3 => ?_⟩
          · refine ⟨_, rfl, iteT ?_⟩;have h44 : t[sk t e']? = some 44 := v9.mp e3;have hpl := (List.getElem?_eq_some_iff.mp h44).1;rw [if_pos h44] at es;obtain ⟨g2, rfl⟩ : ∃ g2, g' = g2 + 1 := ⟨g' - 1, by omega⟩;obtain ⟨u1, u2⟩ := sk_in (t := t) (p := sk t e' + 1) (by omega);have kN4 := b4 _ _ kN nN;have hV4 : VMs CV t (Fl H N) H4 kvs L := hV.mono (fun _ f => f) fun a o f e => b4 a o e (ner a f.1)
            refine ⟨fun σ' H' => σ' = [some (.ref r), some (.int (16 - (d : Int))), some (.ref N)] /\ ((∃ e2 c2 g3 L2 kvs2, GoodO K CR CV dx r a N t H d (g + 1) q c (sk t e' + 1) H' e2 c2 g3 L2 kvs2) \/ Bad H'), fun σ' H' hN' => ?_, ?_⟩
            · obtain ⟨rfl, ⟨e2, c2, g3, L2, kvs2, h1, h2, h3, h3', h4, h5, h6, h7, h8, h9, h10⟩ | h1⟩ := hN'
              · exact ⟨t.length + 1 - e2, by omega, rfl, .inl ⟨e2, c2, g3, L2, kvs2, ⟨h1, h2, h3, h3', h4, h5, h6, by omega, h8, h9, h10⟩, rfl⟩⟩
              · exact ⟨0, by omega, rfl, .inr ⟨h1, rfl⟩⟩
            refine ⟨_, rfl, r, dx, _, rfl, R4.at_, rfl, _, rfl, _, rfl, dx, r, a, t, sk t e' + 1, c', g2, N, kvs, rfl, nN, kN4, by rw [hV.len]; omega, R4, by omega, by rw [List.length_drop]; omega, fun hms => ?_, fun m rest hms hin => ?_, fun m e5 hms hin j2 j3 v b5' c5 H5 j4 b5 kN5 hva g1 g3 R5 => ?_⟩
            · have en : objS (g + 1) d t q = none := by rw [es, mem_none hms]; rfl
              exact ⟨q1 en, fun p2 c2 H5 R5 hd => ⟨rfl, .inr ⟨p2, c2, R5, hd, en⟩⟩⟩
            · obtain ⟨v, hv⟩ := Option.isSome_iff_exists.mp hin;exact q1 (by rw [es]; exact dupE L m g2 0 rest _ hms (keys_in hV4 hv))
            · obtain ⟨w1, w2⟩ := sk_in j2;refine ⟨rfl, .inl ⟨e5, c5, g2, L ++ [m], _, join (sk t e' + 1) H4 H5 m e5 c5 c' b5' g2 L kvs v (b3.trans b4) R4 kN4 hV4 nd (by omega) hin b5 kN5 hva g1 g3 (by omega) j2 R5 hc j4 ?_ (by omega)⟩⟩;rw [es, step L m g2 (sk t e5) (t.drop e5) _ hms (W8 t e5).symm]
          · refine ⟨_, rfl, iteF ?_⟩;rw [if_neg (fun y => e3 (v9.mpr y))] at es;refine ⟨_, rfl, r, dx, _, rfl, R3.at_, rfl, dx, r, a, t, sk t e', c', 125, rfl, by decide, R3, fun e4 H4 b4 R4 => ?_, fun e4 => q1 (by rw [es, if_neg (fun y => e4 (v9.mpr y))]; rfl)⟩;have h125 : t[sk t e']? = some 125 := v9.mp e4;have hpl := (List.getElem?_eq_some_iff.mp h125).1;rw [if_pos h125] at es
            have es' : objS (g + 1) d t q = some (L, t.drop (sk t e' + 1)) := by
              rw [es];show ndup (L, t.drop (sk t e' + 1)) = _;unfold ndup;rw [if_pos nd]
            exact ⟨_, rfl, q2 L (sk t e' + 1) es' (by omega) (by omega) _ c' H4 hc (b3.trans b4) (.obj hN (b4 _ _ kN nN) (hV.mono (fun _ f => f.1) fun a o f e => b4 a o e (ner a f.1))) R4⟩
        · refine ⟨_, rfl, r, dx, _, rfl, R3.at_, rfl, dx, r, a, t, p', c', 44, rfl, by decide, R3, fun e3 => absurd e3 (isd_not hd (.inl rfl)), fun e3 => ?_⟩;refine ⟨_, rfl, iteF ?_⟩;exact ⟨_, rfl, r, dx, _, rfl, R3.at_, rfl, dx, r, a, t, p', c', 125, rfl, by decide, R3, fun e4 => absurd e4 (isd_not hd (.inr (.inr rfl))), fun e4 => q1 en⟩
      have ea' : objS (g + 1) d t q = ((members (g + 1) d (t.drop s)).map (fun y => (([] : List Mem) ++ y.1, y.2)) : Option (List Mem × List Nat)).bind ndup := by
        rw [ea];cases members (g + 1) d (t.drop s) <;> rfl
      refine ⟨_, rfl, r, dx, _, rfl, R2.at_, rfl, _, rfl, _, rfl, dx, r, a, t, s, c, g, N, [], rfl, nN, k2', by decide, R2, s2, by rw [ss, List.length_drop]; omega, fun hms => ?_, (fun m rest hms hin => by cases hin), fun m e5 hms hin j2 j3 v b5' c5 H5 j4 b5 kN5 hva g1 g3 R5 => ?_⟩
      · rw [ss] at hms;have en : objS (g + 1) d t q = none := by rw [ea, mem_none hms]; rfl
        exact ⟨q1 en, fun p2 c2 H5 R5 hd => W0 H5 (.inr ⟨p2, c2, R5, hd, en⟩)⟩
      · rw [ss] at hms;obtain ⟨w1, w2⟩ := sk_in j2;have J := join s H2 H5 m e5 c5 c b5' g [] [] v b02 R2 k2' .nil List.nodup_nil (by show 0 < s; omega) hin b5 kN5 hva g1 g3 (by omega) j2 R5 (fun k _ => rfl) j4 ?_ (by omega)
        · obtain ⟨h1, h2, h3, h3', h4, h5, h6, h7, h8, h9, h10⟩ := J;exact W0 H5 (.inl ⟨e5, c5, g, [m], _, h1, h2, h3, h3', h4, h5, h6, by omega, h8, h9, h10⟩)
        · rw [ea', step [] m g (sk t e5) (t.drop e5) _ hms (W8 t e5).symm]
end
end J
namespace J
open PySem PySem.Spec PyProof.Rows L2 G Ex
open PySem.W (Codec)
open Sv20 (Json value items members valuesIn skip)
section
variable (K : PySem.W.Frag) (CR CN CV : Addr)
def spText : Sp := fun vs H Q E => ∃ dx r a t, vs = [.ref r] /\ Rat K CR dx r a t 0 0 H /\ (Sv20.json t = none -> ∀ H', E (.ref CN) none H') /\ (∀ x, Sv20.json t = some x -> ∀ v b e p' H', But r H H' -> VA CV t (Fr H) H' v x b e -> Rat K CR dx r a t p' (Sv20.values x) H' -> Q v H')
def spInit : Sp := fun vs H Q _ => ∃ r dx a, vs = [.ref r, .ref a] /\ H r = some (.ins CR dx []) /\ ∀ H', But r H H' -> H' r = some (.ins CR dx (rf a 0 0)) -> Q .non H'
def spMembers : Sp := fun vs H Q _ => ∃ (a : Addr) (t : List Nat), vs = [.ref a] /\ SqL K H a (nv t) /\ t.length <= 100000 /\ (∀ x ∈ t, x < 256) /\ (Sv20.object t = none -> ∀ H', Q .non H') /\
  (∀ ms, Sv20.object t = some ms -> ∀ d kvs H', Same H H' -> H d = none -> H' d = some (.dT kvs) -> VMs CV t (Fr H) H' kvs ms -> Q (.ref d) H')
end
theorem nv_of {ns : List Int} (h : ∀ x ∈ ns, 0 <= x /\ x <= 255) : ns.map V.int = nv (Sv20Neutral.nats ns) := by
  unfold nv Sv20Neutral.nats;rw [List.map_map];refine List.map_congr_left fun x hx => ?_
  have := h x hx;show V.int x = V.int ((x.toNat : Nat) : Int)
  congr 1
  omega
theorem nats_lt {ns : List Int} (h : ∀ x ∈ ns, 0 <= x /\ x <= 255) : ∀ x ∈ Sv20Neutral.nats ns, x < 256 := by
  intro x hx;obtain ⟨y, hy, rfl⟩ := List.mem_map.mp hx;have := h y hy;omega
theorem nats_len (ns : List Int) : (Sv20Neutral.nats ns).length = ns.length := List.length_map _
theorem json_at (t : List Nat) : Sv20.json t = (value (2 * t.length + 2) 16 (t.drop (sk t 0))).bind fun x => if skip x.2 = [] then some x.1 else none := by
  have e : skip t = t.drop (sk t 0) := by rw [<- W8, List.drop_zero]
  show (value (2 * t.length + 2) 16 (skip t)).bind _ = _;rw [e]
theorem obj_of {t : List Nat} {ms : List Mem} (h : Sv20.json t = some (.object ms)) : Sv20.object t = some ms := by unfold Sv20.object; rw [h]
theorem obj_no {t : List Nat} (h : Sv20.json t = none) : Sv20.object t = none := by unfold Sv20.object; rw [h]
theorem obj_not {t : List Nat} {x : Json} (h : Sv20.json t = some x) (n : ∀ ms, x ≠ .object ms) : Sv20.object t = none := by
  unfold Sv20.object;rw [h];cases x with
  | object l => exact absurd rfl (n l)
  | _ => rfl
section
variable {P : Program} {w : World} {K : PySem.W.Frag} {mg : Str -> Option Value} {base : Heap} {CR CN CV aB aL aE aK : Addr} {as : List Addr}
theorem sc5 : z7 ["self", "value"] ["self"] (y3 (inClass (top 24) 5)) := ⟨rfl, rfl, rfl, by decide +kernel, rfl, by decide +kernel, by decide +kernel⟩
theorem ok_text {k : Nat} {f : Addr} {fd : FuncData} (F : Fun K "read_text" "Reader.read_text" (inClass (top 24) 5) f fd) (T : Txt K mg CR CN aB) (CVa : z9 P w K mg base (CXn P w CN) CR "read_value" k ["self", "around"] (spVal K CR CN CV 16)) : FnOk P w K mg base (CXn P w CN) (k + 1) f fd ["self"] (spText K CR CN CV) := by
  refine okx F sc5 (fun vs H Q E h => ?_) (fun cdv A outer s H vs Q E hr h => ?_)
  · obtain ⟨dx, r, a, t, rfl, _⟩ := h;rfl
  · obtain ⟨dx, r, a, t, rfl, R, q1, q2⟩ := h
    refine ⟨_, w4 (z6 (i := 1) sc5.nd rfl (Or.inl rfl) (pm CVa Q1 T.cl hr (pv 0) (w6 y2 w9)))
      (w4 (j7 (j8 op_lt (k7 (pv 0) rfl) (Z8 rfl T.len (k7 (pv 0) rfl)) (j9 _)) (w8 (Y6 rfl rfl T.nj T.exc PySem.F.excBase_ValueError throws)) z0)
      (w8 (y6 (pv 1)))), ?_⟩
    have ej := json_at t;have hl := (sk_in (t := t) (p := 0) (Nat.zero_le _)).2
    have last : ∀ (v : V) (p' c' : Nat) (H' : Hp), Rat K CR dx r a t p' c' H' -> (p' < t.length -> ∀ H'', E (.ref CN) none H'') -> (¬ p' < t.length -> Q v H') ->
        tSeq (tIfS (tTest (tOp (rI0 fun i j => .bl (decide (i < j))) (tFld K (tVar 0) "place") (tCB (fun xs H Q => ∃ p ys, xs = [.ref p] /\ (SqL K H p ys \/ SqT K H p ys) /\ Q (.int ys.length) H) (Q0 (tFld K (tVar 0) "text") tNil)))) (tRaise E CN) tNext) (tRet (tVar 1)) { nx := fun _ H' => Q .non H', rt := Q } [some (.ref r), some v] H' := by
      intro v p' c' H' R' k1 k2;refine ⟨_, rfl, r, CR, dx, _, _, rfl, R'.at_, T.cl, T.nP, rfl, _, rfl, r, CR, dx, _, _, rfl, R'.at_, T.cl, T.nT, rfl, a, _, rfl, .inl R'.txt, _, _, rfl, rfl, _, rfl, ?_⟩;refine ite2 (fun e => ?_) (fun e => ?_)
      · have e' : (p' : Int) < ((nv t).length : Nat) := of_decide_eq_true e;rw [j5] at e';exact k1 (by omega) H'
      · have e' : ¬ (p' : Int) < ((nv t).length : Nat) := fun y => e (decide_eq_true y)
        rw [j5] at e';exact ⟨_, rfl, k2 (by omega)⟩
    refine ⟨_, rfl, r, dx, _, rfl, R.at_, rfl, dx, r, a, t, 0, 0, 2 * t.length + 2, rfl, R, Nat.zero_le _, by rw [List.length_drop]; omega, fun hv => ?_, fun x e hv k2 k3 v c' H' k4 b hva R' => ?_⟩
    · rw [hv] at ej;refine ⟨q1 ej, fun v p' c' H' _ R' hd => last v p' c' H' R' (fun _ => q1 ej) fun hp => ?_⟩;obtain ⟨bb, hbb, _⟩ := isd_get hd;exact absurd (List.getElem?_eq_some_iff.mp hbb).1 hp
    · rw [hv] at ej;have ej' : Sv20.json t = if skip (t.drop e) = [] then some x else none := ej
      rw [W8] at ej';refine last v (sk t e) c' H' R' (fun hp => q1 ?_) fun hp => ?_
      · rw [ej', if_neg (fun z => by have := List.drop_eq_nil_iff.mp z; omega)]
      · rw [if_pos (List.drop_eq_nil_of_le (by omega))] at ej';refine q2 x ej' v _ e (sk t e) H' b hva ?_;have := k4 18 (by decide);rw [Nat.zero_add] at this;rw [<- show c' = Sv20.values x from this];exact R'
theorem sc0 : z7 ["self", "text"] ["self", "text"] (y3 (inClass (top 24) 0)) := ⟨rfl, rfl, rfl, by decide +kernel, rfl, by decide +kernel, by decide +kernel⟩
theorem rf_made (a : Addr) : putF "count" (.int 0) (putF "place" (.int 0) (putF "text" (.ref a) [])) = rf a 0 0 := by
  have e1 : putF "text" (.ref a) [] = [(("text" : Str), V.ref a)] := rfl
  have e2 : putF "place" (.int 0) [(("text" : Str), V.ref a)] = [(("text" : Str), V.ref a), ("place", .int 0)] := by
    show (if ("text" : Str) = "place" then _ else (("text" : Str), V.ref a) :: putF "place" (.int 0) []) = _;rw [if_neg (by decide +kernel)]; rfl
  rw [e1, e2];show (if ("text" : Str) = "count" then _ else (("text" : Str), V.ref a) :: (if ("place" : Str) = "count" then _ else (("place" : Str), V.int 0) :: putF "count" (.int 0) [])) = _;rw [if_neg (by decide +kernel), if_neg (by decide +kernel)];rfl
theorem ok_init {f : Addr} {fd : FuncData} (F : Fun K "__init__" "Reader.__init__" (inClass (top 24) 0) f fd) (T : Txt K mg CR CN aB) : FnOk P w K mg base CX0 1 f fd ["self", "text"] (spInit CR) := by
  refine F.ok sc0 (fun vs H Q E h => ?_) (fun cdv A outer s H vs Q E hr h => ?_)
  · obtain ⟨r, dx, a, rfl, _⟩ := h;rfl
  · obtain ⟨r, dx, a, rfl, hH, q⟩ := h;refine ⟨_, w4 (Y2 (pv 0) (pv 1) rfl) (w4 (Y2 (pv 0) y2 rfl) (w8 (Y2 (pv 0) y2 rfl))), ?_⟩;have l1 : (putF "text" (V.ref a) []).length < 1000 := by show 1 < 1000; decide
    have l2 : (putF "place" (V.int 0) (putF "text" (V.ref a) [])).length < 1000 := by
      have := length_putF "place" (V.int 0) (putF "text" (V.ref a) []);have h1 : (putF "text" (V.ref a) []).length = 1 := rfl;omega
    refine ⟨_, rfl, _, rfl, r, CR, dx, _, rfl, hH, T.cl, T.nT, (by show 0 < 1000; decide), _, rfl, r, CR, dx, _, rfl, y1, T.cl, T.nP, l1, _, rfl, r, CR, dx, _, rfl, y1, T.cl, T.nC, l2, ?_⟩;refine q _ (fun b o e n => by rw [y9 n, y9 n, y9 n]; exact e) ?_;rw [y1, rf_made]
end
theorem lenS {us : List Value} {n : Nat} (h : us.length = n + 1) : ∃ a r, us = a :: r /\ r.length = n := by
  cases us with
  | nil => cases h
  | cons a r => exact ⟨a, r, rfl, Nat.succ.inj h⟩
theorem len0 {us : List Value} (h : us.length = 0) : us = [] := List.length_eq_zero_iff.mp h
theorem tup_mk {K : PySem.W.Frag} {a : Addr} {o : Obj} {its : Array Value} {n : Nat} {ns : List Nat} (l : K.lookup a = some o) (c : o.cls = .type "tuple") (d : o.data = .seq its n) (v : Z3 ns its.toList = true) (hn : ns.length <= sizeLine) (H : Hp) : SqT K H a (nv ns) := by
  have r := nats_vals v;refine .inr ⟨o, its, n, l, c, d, ?_, r⟩;have e : (nv ns).length = its.toList.length := r.length;have e2 : its.toList.length = its.size := by simp
  rw [j5] at e;omega
theorem z9.mono {P : Program} {w : World} {K : PySem.W.Frag} {mg : Str -> Option Value} {base : Heap} {CX : CXT} {C : Addr} {m : Str} {j k : Nat} {ps : List Str} {sp : Sp} (c : z9 P w K mg base CX C m j ps sp) (h : j <= k) : z9 P w K mg base CX C m k ps sp :=
  let ⟨f, fd, F, hm, b⟩ := c.ex
  ⟨f, fd, F.mono h, hm, b⟩
theorem Callee.mono {P : Program} {w : World} {K : PySem.W.Frag} {mg : Str -> Option Value} {base : Heap} {CX : CXT} {x : Str} {j k : Nat} {ps : List Str} {sp : Sp} (c : Callee P w K mg base CX x j ps sp) (h : j <= k) : Callee P w K mg base CX x k ps sp :=
  let ⟨f, fd, F, hm, b, m⟩ := c.ex
  ⟨f, fd, F.mono h, hm, b, m⟩
structure MD (K : PySem.W.Frag) (C : Addr) (m qual : Str) (st : Stmt) (ps : List Str) (f : Addr) (fd : FuncData) : Prop where
  fn : Fun K m qual st f fd
  me : Meth K C m f
  bi : Binds K fd ps []
theorem MD.callee {P : Program} {w : World} {K : PySem.W.Frag} {mg : Str -> Option Value} {base : Heap} {CX : CXT} {C : Addr} {m qual : Str} {st : Stmt} {ps : List Str} {f : Addr} {fd : FuncData} {k : Nat} {sp : Sp} (D : MD K C m qual st ps f fd) (G : FnOk P w K mg base CX k f fd ps sp) : z9 P w K mg base CX C m k ps sp := ⟨f, fd, G, D.me, D.bi⟩
theorem no_sp {P : Program} {w : World} {K : PySem.W.Frag} {mg : Str -> Option Value} {base : Heap} {CX : CXT} {k : Nat} {f : Addr} {fd : FuncData} {ps : List Str} : FnOk P w K mg base CX k f fd ps (fun _ _ _ _ => False) := ⟨fun _ _ _ _ h => h.elim, fun _ _ _ _ _ _ _ _ _ _ _ _ _ h => h.elim⟩
structure MkV (P : Program) (w : World) (K : PySem.W.Frag) (mg : Str -> Option Value) (base : Heap) (CV : Addr) : Prop where
  ex : ∃ fI fdI, Mk K CV fI /\ FnOk P w K mg base CX0 1 fI fdI ["self", "kind", "inner", "begin", "end"] (spVInit CV) /\ Binds K fdI ["self", "kind", "inner", "begin", "end"] []
theorem allV {P : Program} {w : World} {K : PySem.W.Frag} {mg : Str -> Option Value} {base : Heap} {CR CN CV aB aK : Addr} {f6 fi f7 f8 f9 f10 : Addr} {d6 di d7 d8 d9 d10 : FuncData} (T : Txt K mg CR CN aB) (T6 : Txt6 K mg CV aK) (MV : MkV P w K mg base CV)
    (M6 : MD K CR "read_value" "Reader.read_value" (inClass (top 24) 6) ["self", "around"] f6 d6) (Mi : MD K CR "read_inner" "Reader.read_inner" (inClass (top 24) 7) ["self", "kind", "around"] fi di) (M7 : MD K CR "read_nest" "Reader.read_nest" (inClass (top 24) 8) ["self", "kind", "around"] f7 d7) (M8 : MD K CR "read_array" "Reader.read_array" (inClass (top 24) 9) ["self", "around"] f8 d8) (M9 : MD K CR "read_object" "Reader.read_object" (inClass (top 24) 10) ["self", "around"] f9 d9) (M10 : MD K CR "read_member" "Reader.read_member" (inClass (top 24) 11) ["self", "around", "members"] f10 d10)
    (C1 : z9 P w K mg base CX0 CR "next_byte" 1 ["self"] (spNext K CR)) (C2 : z9 P w K mg base CX0 CR "passes" 2 ["self", "byte"] (Y0 K CR)) (C3 : z9 P w K mg base (CXn P w CN) CR "take" 3 ["self", "byte"] (spTake K CR CN)) (C4 : z9 P w K mg base CX0 CR "skip_blanks" 2 ["self"] (spSkip K CR))
    (CSt : z9 P w K mg base (CXn P w CN) CR "read_string" 6 ["self"] (spStr K CR CN)) (CW : z9 P w K mg base (CXn P w CN) CR "read_word" 4 ["self", "word"] (spWord K CR CN)) (CNu : z9 P w K mg base (CXn P w CN) CR "read_number" 3 ["self"] (spNum K CR CN)) :
    ∀ d : Nat, z9 P w K mg base (CXn P w CN) CR "read_value" (9 + 5 * d) ["self", "around"] (spVal K CR CN CV d)
  | 0 => by
    obtain ⟨fI, fdI, mk, GI, bI⟩ := MV.ex;exact M6.callee (ok_val (by decide) M6.fn T T6 C1 C4 (Mi.callee (ok_inner (by decide) Mi.fn T T6 (M7.callee (ok_nest (k := 6) M7.fn T T6 (M8.callee no_sp) (M9.callee no_sp) (.inl rfl))) CSt CW CNu)) mk GI bI)
  | d + 1 => by
    obtain ⟨fI, fdI, mk, GI, bI⟩ := MV.ex;have V := allV T T6 MV M6 Mi M7 M8 M9 M10 C1 C2 C3 C4 CSt CW CNu d;have A := M8.callee (ok_array (by omega) M8.fn T C2 C3 C4 V);have B := M10.callee (ok_member (by omega) M10.fn T C3 C4 CSt V);have O := M9.callee (ok_object (by omega) M9.fn T C2 C3 C4 B);have N := M7.callee (ok_nest (d := d + 1) M7.fn T T6 (A.mono (by omega)) O (.inr ⟨rfl, rfl⟩));have I := Mi.callee (ok_inner (by omega) Mi.fn T T6 N CSt CW CNu);have Z := M6.callee (ok_val (by omega) M6.fn T T6 C1 C4 I mk GI bI);exact Z.mono (by omega)
end J
namespace J
open PySem PySem.Spec PyProof.Rows L2 G Ex
open Sv20 (Json value items members valuesIn skip)
section
variable {P : Program} {w : World} {K : PySem.W.Frag} {mg : Str -> Option Value} {base : Heap} {CR CN CV aB aL aE aK : Addr} {as : List Addr}
theorem scRM : z7 ["text", "value"] ["text"] (y3 (top 25)) := ⟨rfl, rfl, rfl, by decide +kernel, rfl, by decide +kernel, by decide +kernel⟩
theorem ok_members {k : Nat} (hk : 2 <= k) {f fI : Addr} {fd fdI : FuncData} (F : Fun K "read_members" "read_members" (top 25) f fd) (T : Txt K mg CR CN aB) (T6 : Txt6 K mg CV aK) (M : Mk K CR fI) (GI : FnOk P w K mg base CX0 1 fI fdI ["self", "text"] (spInit CR)) (bI : Binds K fdI ["self", "text"] []) (mR : mg "Reader" = some (.ref CR))
    (CT : z9 P w K mg base (CXn P w CN) CR "read_text" k ["self"] (spText K CR CN CV)) : FnOk P w K mg base CX0 (k + 1) f fd ["text"] (spMembers K CV) := by
  refine F.ok scRM (fun vs H Q E h => ?_) (fun cdv A outer s H vs Q E hr h => ?_)
  · obtain ⟨a, t, rfl, _⟩ := h;rfl
  · obtain ⟨a, t, rfl, hS, hl, hb, q1, q2⟩ := h;have hr2 : Room 2 _ := hr.mono hk
    refine ⟨_, w4 (ps_try (tb := fun E => tAsg (tMeth CR "read_text" (spText K CR CN CV) [] E (tMake CR (spInit CR) [] E0 (Q0 (tVar 0) tNil)) tNil) (gName 1)) rfl rfl rfl T.nj T.exc (by decide)
        (fun pn EX E hx => w8 (z6 (i := 1) scRM.nd rfl (Or.inl rfl) (pm0 CT hx T.cl hr (pe_make M GI hr2 rfl mR bI .nil j0 (w6 (pv 0) w9))))) (fun e => w8 (y6 Z7)))
      (w4 (j7 (j8 op_ne (k7 (pv 1) rfl) (pe_gs rfl T6.go) (j9 _)) (w8 (y6 Z7)) z0)
      (w8 (y6 (k7 (pv 1) rfl)))), ?_⟩
    refine ⟨_, rfl, fun r dx hr0 hd0 ne => ?_⟩;have b0 : Same H (upd (upd H dx (.own r)) r (.ins CR dx [])) := fun b o e => by rw [y9 (y4 e hr0), y9 (y4 e hd0)]; exact e
    refine ⟨r, dx, a, rfl, y1, fun H1 b1 h1 => ⟨rfl, ?_⟩⟩
    have hS1 : SqL K H1 a (nv t) := by
      have h0 := b0.seq hS;exact (ne_ins h0 y1).2 H1 b1
    have R1 : Rat K CR dx r a t 0 0 H1 := ⟨h1, hS1, hl, hb⟩;have s1 : Same H H1 := fun b o e => b1 b o (b0 b o e) (y4 e hr0)
    refine ⟨r, dx, _, rfl, h1, rfl, dx, r, a, t, rfl, R1, fun ej H' σ' _ => ?_, fun x ej v b e p' H2 b2 hva R2 => ?_⟩
    · exact q1 (obj_no ej) H'
    · have s2 : Same H H2 := fun b o e => b2 b o (s1 b o e) (y4 e hr0)
      cases hva with
      | @mk y dy kd i x' b e fp hy hi =>
        have get : ∀ (g : V), g = i -> True := fun _ _ => trivial
        refine ⟨_, rfl, y, CV, dy, _, _, rfl, hy, T6.cl, T6.nK, rfl, rfl, _, rfl, ?_⟩;refine ifSn (fun n => ?_) (fun n => ?_)
        · refine q1 (obj_not ej fun ms z => ?_) H2;subst z;cases hi with
          | obj => exact n rfl
        · refine ⟨_, rfl, y, CV, dy, _, _, rfl, hy, T6.cl, T6.nI, rfl, ?_⟩;cases hi with
          | str => exact absurd n (by decide +kernel)
          | num => exact absurd n (by decide +kernel)
          | word hw =>
            subst n;rcases hw with z | z | z <;> exact absurd z (by decide +kernel)
          | arr => exact absurd n (by decide +kernel)
          | @obj d kvs ms fd hd hm =>
            have fr1 : ∀ a, Fr H1 a -> Fr H a := fun a f => by
              show H a = none;cases z : H a with
              | none => rfl
              | some o =>
                have f : H1 a = none := f;rw [s1 a o z] at f;cases f
            exact q2 ms (obj_of ej) d kvs H2 s2 (fr1 d fd) hd (hm.mono fr1 fun a o _ e => e)
end
end J
namespace J
open PySem PySem.Spec PyProof.Rows L2 G Ex
section
variable {X : Cx}
theorem imp_tt {e : Expr} {t t' : TT} (h : PT X e t) (i : ∀ σ H Q, t' σ H Q -> t σ H Q) : PT X e t' := fun pins s σ H Q I q => h pins s σ H Q I (i σ H Q q)
theorem n_sub : OpR X (binaryOp .Sub) (rN (fun a b => b <= a) fun a b => a - b) := op_imp W7 fun x y H Q ⟨a, b, e1, e2, c, q⟩ => ⟨a, b, e1, e2, by rw [Int.natCast_sub c] at q; exact q⟩
def tBetw (i : Nat) (lo hi : Int) : TT := fun σ H Q => ∃ z : Int, σ[i]? = some (some (.int z)) /\ Q (decide (lo <= z /\ z <= hi)) H
theorem pt_betw {e : Expr} {i : Nat} {lo hi : Int} (h : PT X e (tTest (tChain (rI0 fun i j => .bl (decide (i <= j))) (rI0 fun i j => .bl (decide (i <= j))) (tC (.int lo)) (tVar i) (tC (.int hi))))) : PT X e (tBetw i lo hi) := imp_tt h fun σ H Q ⟨z, hz, q⟩ => by
  refine ⟨_, hz, lo, z, rfl, rfl, _, rfl, ?_⟩;by_cases h1 : lo <= z
  · rw [if_pos (decide_eq_true h1)];refine ⟨z, hi, rfl, rfl, _, rfl, ?_⟩;have e : decide (lo <= z /\ z <= hi) = decide (z <= hi) := by by_cases y : z <= hi <;> simp [y, h1]
    rw [e] at q;exact q
  · rw [if_neg (fun y => h1 (of_decide_eq_true y))];refine ⟨_, rfl, ?_⟩;have e : decide (lo <= z /\ z <= hi) = false := decide_eq_false fun y => h1 y.1
    rw [e] at q;exact q
end
theorem drop_c {t : List Nat} {p b : Nat} (h : t[p]? = some b) : t.drop p = b :: t.drop (p + 1) := by
  obtain ⟨hp, rfl⟩ := List.getElem?_eq_some_iff.mp h;exact List.drop_eq_getElem_cons hp
end J
namespace B6
open PySem PySem.Spec PyProof.Rows L2 G Ex J
open Sv20 (packed sign unpacked six)
abbrev sSix : Stmt := (top 1)
abbrev sFrom : Stmt := (top 2)
def spSix : Sp := fun vs H Q _ => ∃ z : Int, vs = [.int z] /\ Q (.int (sx z)) H
def spFrom (K : PySem.W.Frag) : Sp := fun vs H Q _ => ∃ (a : Addr) (t : List Nat), vs = [.ref a] /\ SqL K H a (nv t) /\ t.length <= 400000 /\ (∀ x ∈ t, x < 256) /\ (unpacked t = none -> ∀ H', Same H H' -> Q .non H') /\ (∀ d, unpacked t = some d -> Gives H Q d)
section
variable {P : Program} {w : World} {K : PySem.W.Frag} {mg : Str -> Option Value} {base : Heap}
theorem scSx : z7 ["sign"] ["sign"] (y3 sSix) := ⟨rfl, rfl, rfl, by decide +kernel, rfl, by decide +kernel, by decide +kernel⟩
theorem ok_six {f : Addr} {fd : FuncData} (F : Fun K "six_of" "six_of" sSix f fd) (hord : mg "ord" = none) : FnOk P w K mg base CX0 1 f fd ["sign"] spSix := by
  refine F.ok scSx (fun vs H Q E h => ?_) (fun cdv A outer s H vs Q E hr h => ?_)
  · obtain ⟨z, rfl, _⟩ := h;rfl
  · obtain ⟨z, rfl, q⟩ := h
    refine ⟨_, w4 (j7 (pt_betw (Y5 W4 W4 (v7 (i := 65) rfl hord rfl rfl) (pv 0) (v7 (i := 90) rfl hord rfl rfl))) (w8 (y6 (y8 W7 (pv 0) (v7 (i := 65) rfl hord rfl rfl)))) z0)
      (w4 (j7 (pt_betw (Y5 W4 W4 (v7 (i := 97) rfl hord rfl rfl) (pv 0) (v7 (i := 122) rfl hord rfl rfl))) (w8 (y6 (y8 Z2 (y8 W7 (pv 0) (v7 (i := 97) rfl hord rfl rfl)) y2))) z0)
      (w4 (j7 (pt_betw (Y5 W4 W4 (v7 (i := 48) rfl hord rfl rfl) (pv 0) (v7 (i := 57) rfl hord rfl rfl))) (w8 (y6 (y8 Z2 (y8 W7 (pv 0) (v7 (i := 48) rfl hord rfl rfl)) y2))) z0)
      (w4 (j7 (j8 op_eq (pv 0) (v7 (i := 45) rfl hord rfl rfl) (j9 _)) (w8 (y6 y2)) z0)
      (w4 (j7 (j8 op_eq (pv 0) (v7 (i := 95) rfl hord rfl rfl) (j9 _)) (w8 (y6 y2)) z0)
      (w8 (y6 (pe_un un_neg y2))))))), ?_⟩
    unfold sx at q
    have ei : ∀ {z w : Int}, decide (V.int z = V.int w) = true -> z = w := fun {z w} y => by
      have := of_decide_eq_true y;injection this
    have en : ∀ {z w : Int}, ¬ decide (V.int z = V.int w) = true -> ¬ z = w := fun {z w} y e => y (by rw [e]; exact decide_eq_true rfl)
    refine ⟨z, rfl, ite2 (fun e1 => ?_) (fun e1 => ?_)⟩
    · rw [if_pos (of_decide_eq_true e1)] at q;exact ⟨_, rfl, z, 65, rfl, rfl, q⟩
    rw [if_neg (fun y => e1 (decide_eq_true y))] at q;refine ⟨z, rfl, ite2 (fun e2 => ?_) (fun e2 => ?_)⟩
    · rw [if_pos (of_decide_eq_true e2)] at q;exact ⟨_, rfl, z, 97, rfl, rfl, _, _, rfl, rfl, q⟩
    rw [if_neg (fun y => e2 (decide_eq_true y))] at q;refine ⟨z, rfl, ite2 (fun e3 => ?_) (fun e3 => ?_)⟩
    · rw [if_pos (of_decide_eq_true e3)] at q;exact ⟨_, rfl, z, 48, rfl, rfl, _, _, rfl, rfl, q⟩
    rw [if_neg (fun y => e3 (decide_eq_true y))] at q;refine ⟨_, rfl, rfl, _, rfl, ite2 (fun e4 => ?_) (fun e4 => ?_)⟩
    · rw [if_pos (ei e4)] at q;exact q
    rw [if_neg (en e4)] at q;refine ⟨_, rfl, rfl, _, rfl, ite2 (fun e5 => ?_) (fun e5 => ?_)⟩
    · rw [if_pos (ei e5)] at q;exact q
    rw [if_neg (en e5)] at q;exact ⟨1, rfl, q⟩
theorem scFr : z7 ["signs", "data", "held", "bits", "sign", "six"] ["signs"] (y3 sFrom) := ⟨rfl, rfl, rfl, by decide +kernel, rfl, by decide +kernel, by decide +kernel⟩
theorem ok_from {f : Addr} {fd : FuncData} (F : Fun K "from_signs" "from_signs" sFrom f fd) (hlen : mg "len" = none) (CX6 : Callee P w K mg base CX0 "six_of" 1 ["sign"] spSix) : FnOk P w K mg base CX0 2 f fd ["signs"] (spFrom K) := by
  refine F.ok scFr (fun vs H Q E h => ?_) (fun cdv A outer s H vs Q E hr h => ?_)
  · obtain ⟨a, t, rfl, _⟩ := h;rfl
  · obtain ⟨a, t, rfl, hS, hl, hb, q0, q1⟩ := h;have lz : sizeLine = 16777216 := rfl
    refine ⟨_, w4 (j7 (j8 op_eq (y8 op_mod (Z8 rfl hlen (pv 0)) y2) y2 (j9 _)) (w8 (y6 Z7)) z0)
      (w4 (z6 (i := 1) scFr.nd rfl (Or.inl rfl) (W6 w9))
      (w4 (z6 (i := 2) scFr.nd rfl (Or.inl rfl) y2)
      (w4 (z6 (i := 3) scFr.nd rfl (Or.inl rfl) y2)
      (w4 (ps_for PassesOwn.never rfl (pi_list (pv 0)) (k9 (i := 4) scFr.nd rfl (Or.inl rfl))
        (w4 (z6 (i := 5) scFr.nd rfl (Or.inl rfl) (j6 CX6 j0 hr rfl (w6 (pv 4) w9)))
        (w4 (j7 (j8 op_lt (pv 5) y2 (j9 _)) (w8 (y6 Z7)) z0)
        (w4 (z6 (i := 2) scFr.nd rfl (Or.inl rfl) (y8 n_or (y8 n_shl (pv 2) y2) (pv 5)))
        (w4 (z6 (i := 3) scFr.nd rfl (Or.inl rfl) (y8 Q2 (pv 3) y2))
        (w8 (j7 (j8 op_ge (pv 3) y2 (j9 _))
          (w4 (z6 (i := 3) scFr.nd rfl (Or.inl rfl) (y8 n_sub (pv 3) y2))
          (w4 (k8 (pe_bm PySem.F.plainAttrs_list PySem.F.slot_list_append PySem.F.type_list_append mt_append (pv 1) (w6 (y8 n_shr (pv 2) (pv 3)) w9)))
          (w8 (z6 (i := 2) scFr.nd rfl (Or.inl rfl) (y8 n_and (pv 2) (y8 n_sub (y8 n_shl y2 (pv 3)) y2))))))
          z0)))))))
      (w4 (j7 (j8 op_ne (pv 2) y2 (j9 _)) (w8 (y6 Z7)) z0)
      (w8 (y6 (pv 1)))))))), ?_⟩
    refine ⟨_, rfl, a, _, rfl, .inl hS, _, _, rfl, rfl, (by show (0 : Int) < 4; decide), rfl, _, rfl, ite2 (fun e => ?_) (fun e => ?_)⟩
    · have e' : (((nv t).length : Nat) : Int) % 4 = 1 := by
        have := of_decide_eq_true e;injection this
      rw [j5] at e';exact q0 (unpacked_one (by omega)) H (Same.refl _)
    have e' : ¬ (((nv t).length : Nat) : Int) % 4 = 1 := fun y => e (decide_eq_true (congrArg V.int y))
    rw [j5] at e';refine ⟨Nat.zero_le _, fun S hS0 => ?_⟩;have s0 : Same H (upd H S (.lst [])) := z8 hS0 _
    refine ⟨_, rfl, a, rfl, ⟨_, s0.seq hS⟩, for_list (K := K) (a := a) (xs := nv t) (fun i σ H' => ∃ (h b : Nat) (out : List Nat) (v4 v5 : Option V), σ = [some (.ref a), some (.ref S), some (.int (h : Int)), some (.int (b : Int)), v4, v5] /\ Same H H' /\ H' S = some (.lst (nv out)) /\ Got i h b /\ Reads t out h b (t.drop i) /\ out.length <= i)
      ⟨0, 0, [], none, none, rfl, s0, y1, .inl ⟨rfl, rfl, rfl⟩, by rw [List.drop_zero]; exact reads0 t, Nat.le_refl _⟩ (fun i σ H' _ ⟨_, _, _, _, _, _, z, _⟩ => z.seq hS) ?_ ?_⟩
    · rintro i x σ H' hx ⟨h, b, out, v4, v5, rfl, s1, k1, g, R, ol⟩;obtain ⟨c, hc, rfl⟩ := nv_ex hx;have hi := (List.getElem?_eq_some_iff.mp hc).1;have hc2 : c < 256 := hb c (List.mem_of_getElem? hc);have st := six_tab c hc2;have gl := got_lt g;rw [drop_c hc] at R;refine ⟨_, rfl, (c : Int), rfl, _, rfl, _, _, rfl, rfl, _, rfl, ite2 (fun e2 => ?_) (fun e2 => ?_)⟩
      · have e2' : sx (c : Int) < 0 := of_decide_eq_true e2;rw [if_pos e2'] at st;exact q0 (reads_no R st) H' s1
      have e2' : ¬ sx (c : Int) < 0 := fun y => e2 (decide_eq_true y)
      rw [if_neg e2'] at st;have es : sx (c : Int) = (((sx (c : Int)).toNat : Nat) : Int) := by omega
      generalize (sx (c : Int)).toNat = s6 at st es;have hs6 := six_lt st;obtain ⟨t1, t2⟩ := reads_turn g R st;have el : Nat.lor (h * 2 ^ 6) s6 = h * 64 + s6 := lor_add (k := 6) hs6;refine ⟨_, rfl, h, 6, rfl, rfl, ⟨by omega, by omega⟩, _, rfl, h * 2 ^ 6, s6, rfl, congrArg V.int es, _, rfl, b, 6, rfl, rfl, ?_⟩;refine ⟨_, rfl, _, _, rfl, rfl, _, rfl, ite2 (fun e3 => ?_) (fun e3 => ?_)⟩
      · have e3' : (8 : Int) <= ((b + 6 : Nat) : Int) := of_decide_eq_true e3;have hb8 : 8 <= b + 6 := by omega
        obtain ⟨R2, g2⟩ := t2 hb8;have eb : b + 6 - 8 = b - 2 := by omega
        have pw : 2 ^ (b + 6 - 8) <= 2 ^ 6 := Nat.pow_le_pow_right (by decide) (by omega);have pp : 0 < 2 ^ (b + 6 - 8) := Nat.pow_pos (by decide);refine ⟨_, rfl, b + 6, 8, rfl, rfl, hb8, _, rfl, .inl ⟨rfl, _, SqL.of k1⟩, _, rfl, _, rfl, Nat.lor (h * 2 ^ 6) s6, b + 6 - 8, rfl, rfl, S, _, _, rfl, rfl, k1, by rw [j5]; omega, ?_⟩;refine ⟨_, rfl, _, rfl, 1, b + 6 - 8, rfl, rfl, ⟨by omega, by omega⟩, 1 * 2 ^ (b + 6 - 8), 1, rfl, rfl, by omega, Nat.lor (h * 2 ^ 6) s6, 1 * 2 ^ (b + 6 - 8) - 1, rfl, rfl, ?_⟩;have el2 : Nat.land (Nat.lor (h * 2 ^ 6) s6) (1 * 2 ^ (b + 6 - 8) - 1) = (h * 64 + s6) % 2 ^ (b - 2) := by rw [Nat.one_mul, land_mod, el, eb]
        refine ⟨Nat.land (Nat.lor (h * 2 ^ 6) s6) (1 * 2 ^ (b + 6 - 8) - 1), b + 6 - 8, out ++ [Nat.lor (h * 2 ^ 6) s6 / 2 ^ (b + 6 - 8)], _, _, rfl, Q3 s1 hS0 _, by rw [y1, Y3]; rfl, ?_, ?_, by rw [List.length_append]; show out.length + 1 <= i + 1; omega⟩
        · rw [el2, eb]; exact g2
        · rw [el2, el, eb]; exact R2
      · have e3' : ¬ (8 : Int) <= ((b + 6 : Nat) : Int) := fun y => e3 (decide_eq_true y)
        obtain ⟨R2, g2⟩ := t1 (by omega);exact ⟨Nat.lor (h * 2 ^ 6) s6, b + 6, out, _, _, rfl, s1, k1, by rw [el]; exact g2, by rw [el]; exact R2, by omega⟩
    · rintro σ H' ⟨h, b, out, v4, v5, rfl, s1, k1, g, R, ol⟩;rw [j5] at g R;rw [List.drop_length] at R;have ee := reads_end g (by omega) R;refine ⟨_, rfl, rfl, _, rfl, ite2 (fun e2 => ?_) (fun e2 => ?_)⟩
      · have e2' : ¬ h = 0 := fun y => by
          subst y;exact absurd e2 (by decide)
        rw [if_neg e2'] at ee;exact q0 ee H' s1
      · have e2' : h = 0 := by
          by_cases y : h = 0
          · exact y
          · exfalso;refine e2 ?_;have : ¬ V.int (h : Int) = V.int 0 := fun z => by injection z with z; omega
            rw [decide_eq_false this]; rfl
        rw [if_pos e2'] at ee;exact ⟨_, rfl, q1 out ee S H' s1 hS0 k1⟩
end
end B6
namespace T3
open PySem PySem.Spec PyProof.Rows L2 G
open Sv20 (turn big three word ofBig slice begun rounds)
def top (i : Nat) : Stmt := PySem.Challenge.pw_tokenpass_s06_tk_check.main.body.getD i (.Pass ⟨0, 0, 0, 0⟩)
abbrev sTurned : Stmt := (top 54)
abbrev sBytes : Stmt := (top 55)
abbrev sPadded : Stmt := (top 56)
abbrev sSpread : Stmt := (top 57)
abbrev sBehind : Stmt := (top 58)
abbrev sSha : Stmt := (top 59)
abbrev sHs : Stmt := (top 62)
structure Txt (K : PySem.W.Frag) (mg : Str -> Option Value) (aF aC : Addr) : Prop where
  blk : ∃ t, mg "BLOCK" = some (.int 64 t)
  wrd : ∃ t, mg "WORD" = some (.int 4294967295 t)
  fs : mg "FIRST_STATE" = some (.ref aF)
  cs : mg "CONSTANTS" = some (.ref aC)
  fsv : ∀ H, SqT K H aF (nv begun)
  csv : ∀ H, SqT K H aC (nv rounds)
  range : mg "range" = none
  len : mg "len" = none
  zip : mg "zip" = none
  list : mg "list" = none
structure Callee (P : Program) (w : World) (K : PySem.W.Frag) (mg : Str -> Option Value) (base : Heap) (x : Str) (k : Nat) (ps : List Str) (sp : Sp) : Prop where
  ex : ∃ f fd, FnOk P w K mg base CX0 k f fd ps sp /\ PySem.W.keepIn K (.ref f) = true /\ Binds K fd ps [] /\ mg x = some (.ref f)
section
variable {X : Cx}
theorem x8 {x : Str} {i : Int} {pos : Pos} (hg : Gl X x) (h : ∃ t, X.mg x = some (.int i t)) (hd : (x == ("__debug__" : Str)) = false := by decide) : PE X (.Name x pos) (tC (.int i)) := by
  obtain ⟨t, e⟩ := h;exact pe_glob hg e ⟨t, rfl⟩ hd
theorem j6 {x : Str} {k : Nat} {ps : List Str} {sp : Sp} {p pos : Pos} {e : Expr} {es : List Expr} {t : TA} (c : Callee X.prog X.w X.K X.mg X.base x k ps sp) (hr : Room k X.A) (hg : Gl X x) (ha : PA X (e :: es) t) (hdb : (x == ("__debug__" : Str)) = false := by decide)
    (he : starEach (e :: es) X.env = (false, eval e X.env) :: starEach es X.env := by rfl) (hpl : (backTo pos (starEach es X.env)).any (·.1) = false := by rfl) : PE X (.Call (.Name x p) (e :: es) [] pos) (tCall sp [] E0 t) := by
  obtain ⟨f, fd, F, kp, b, m⟩ := c.ex;exact pe_call F hr hg m kp b .nil j0 ha hdb he hpl
theorem Z8 {e : Expr} {p pos : Pos} {te : TE} (hg : Gl X "len") (hm : X.mg "len" = none) (h : PE X e te) (hs : starEach [e] X.env = (false, eval e X.env) :: starEach [] X.env := by rfl) :
    PE X (.Call (.Name "len" p) [e] [] pos) (tCB (fun xs H Q => ∃ p ys, xs = [.ref p] /\ (SqL X.K H p ys \/ SqT X.K H p ys) /\ Q (.int ys.length) H) (Q0 te tNil)) :=
  pe_callB call_len_seq hg hm PySem.boot_len (w6 h w9 hs) (by decide) (by decide) hs rfl
end
def rV (C : Int -> Int -> Prop) (g : Int -> Int -> V) : R2 := fun x y H Q => ∃ i j, x = .int i /\ y = .int j /\ C i j /\ ∃ v, g i j = v /\ Q v H
def rV0 (g : Int -> Int -> V) : R2 := fun x y H Q => ∃ i j, x = .int i /\ y = .int j /\ ∃ v, g i j = v /\ Q v H
theorem op_val {X : Cx} {f : Value -> Value -> Sem Value} {C : Int -> Int -> Prop} {g : Int -> Int -> V} (h : OpR X f (rI C g)) : OpR X f (rV C g) := op_imp h fun x y H Q ⟨i, j, e1, e2, c, v, e, q⟩ => ⟨i, j, e1, e2, c, by rw [e]; exact q⟩
theorem op_val0 {X : Cx} {f : Value -> Value -> Sem Value} {g : Int -> Int -> V} (h : OpR X f (rI0 g)) : OpR X f (rV0 g) := op_imp h fun x y H Q ⟨i, j, e1, e2, v, e, q⟩ => ⟨i, j, e1, e2, by rw [e]; exact q⟩
theorem yes {te : TE} {σ : L2.St} {H : Hp} {k : VK} {n : Hp -> Prop} (h : te σ H k) : tYes σ H fun b H3 => if b = true then te σ H3 k else n H3 := by
  show if true = true then te σ H k else n H
  rw [if_pos rfl];exact h
def spTurned : Sp := fun vs H Q _ => ∃ x k : Nat, vs = [.int (x : Int), .int (k : Int)] /\ x < 4294967296 /\ k <= 32 /\ Q (.int ((turn k x : Nat) : Int)) H
def Gives (H : Hp) (Q : VK) (l : List Nat) : Prop := ∀ (p : Addr) (H' : Hp), Same H H' -> H p = none -> H' p = some (.lst (nv l)) -> Q (.ref p) H'
def spBytes : Sp := fun vs H Q _ => ∃ n k : Nat, vs = [.int (n : Int), .int (k : Int)] /\ k <= 8 /\ Gives H Q (big k n)
def spPadded : Sp := fun vs H Q _ => ∃ (a : Addr) (b : List Nat), vs = [.ref a] /\ H a = some (.lst (nv b)) /\ b.length <= 200000 /\ Gives H Q (My.pad b)
def spSpread : Sp := fun vs H Q _ => ∃ (a : Addr) (b : List Nat), vs = [.ref a] /\ H a = some (.lst (nv b)) /\ b.length = 64 /\ (∀ x ∈ b, x < 256) /\ Gives H Q (My.ws2 (My.ws1 b 16) 48)
def spBehind : Sp := fun vs H Q _ => ∃ (c a : Addr) (s b : List Nat), vs = [.ref c, .ref a] /\ H c = some (.lst (nv s)) /\ H a = some (.lst (nv b)) /\ s.length = 8 /\ (∀ x ∈ s, x < 4294967296) /\ b.length = 64 /\ (∀ x ∈ b, x < 256) /\ Gives H Q (Sv20.block s b)
def spSha : Sp := fun vs H Q _ => ∃ (a : Addr) (b : List Nat), vs = [.ref a] /\ H a = some (.lst (nv b)) /\ b.length <= 200000 /\ (∀ x ∈ b, x < 256) /\ Gives H Q (Sv20.sha b)
section
variable {P : Program} {w : World} {K : PySem.W.Frag} {mg : Str -> Option Value} {base : Heap} {aF aC : Addr}
theorem scT : z7 ["word", "steps"] ["word", "steps"] (y3 sTurned) := ⟨rfl, rfl, rfl, by decide +kernel, rfl, by decide +kernel, by decide +kernel⟩
theorem ok_turned {f : Addr} {fd : FuncData} (F : Fun K "turned" "turned" sTurned f fd) (T : Txt K mg aF aC) : FnOk P w K mg base CX0 1 f fd ["word", "steps"] spTurned := by
  refine F.ok scT (fun vs H Q E h => ?_) (fun cdv A outer s H vs Q E hr h => ?_)
  · obtain ⟨x, k, rfl, _⟩ := h;rfl
  · obtain ⟨x, k, rfl, hx, hk, q⟩ := h;refine ⟨_, w8 (y6 (y8 n_and (y8 n_or (y8 n_shr (pv 0) (pv 1)) (y8 n_shl (pv 0) (y8 W7 y2 (pv 1)))) (x8 rfl T.wrd))), ?_⟩;refine ⟨_, rfl, _, rfl, x, k, rfl, rfl, _, rfl, _, rfl, _, _, rfl, rfl, x, 32 - k, rfl, (by show V.int (32 - (k : Int)) = _; congr 1; omega), ⟨by omega, by omega⟩, _, _, rfl, rfl, _, 4294967295, rfl, rfl, ?_⟩;show Q _ H;rw [My.turn_bits hx hk];exact q
theorem scB : z7 ["number", "size", "place"] ["number", "size"] (y3 sBytes) := ⟨rfl, rfl, rfl, by decide +kernel, rfl, by decide +kernel, by decide +kernel⟩
theorem ok_bytes {f : Addr} {fd : FuncData} (F : Fun K "bytes_of" "bytes_of" sBytes f fd) (T : Txt K mg aF aC) : FnOk P w K mg base CX0 1 f fd ["number", "size"] spBytes := by
  refine F.ok scB (fun vs H Q E h => ?_) (fun cdv A outer s H vs Q E hr h => ?_)
  · obtain ⟨n, k, rfl, _⟩ := h;rfl
  · obtain ⟨n, k, rfl, hk, q⟩ := h
    refine ⟨_, w8 (y6 (pe_lc (own := [("place", 2)]) rfl scB.nd (pi_range3 rfl T.range (w6 (y8 W7 (pv 1) y2) (w6 (pe_un un_neg y2) (w6 (pe_un un_neg y2) w9)))) (Y8 (by show blkC ["number", "size", "place"] (y3 sBytes) _ [("place", 2)] = true; decide +kernel))
      (fun s H C cl fp => k9 (i := 2) scB.nd rfl (Or.inl rfl)) (fun s H C cl fp => pts_nil) (fun s H C cl fp => y8 n_and (y8 n_shr (pv 0) (y8 op_mul y2 (pv 2))) y2))), ?_⟩
    have hR : RgC ((k : Int) - 1) (-1) (-1) k := by
      have := RgC.neg (i := (k : Int) - 1) (j := -1) (by omega) (by omega) (by omega) (by omega);have e : ((k : Int) - 1 - -1).toNat = k := by omega
      rw [e] at this;exact this
    refine ⟨_, rfl, _, _, rfl, rfl, _, rfl, _, rfl, _, _, _, k, rfl, hR, fun D hD => ?_⟩;refine lc_rangeC (fun i H' => Same H H' /\ H' D = some (.lst (nv ((big k n).take i)))) ⟨z8 hD _, y1⟩ ?_ ?_
    · rintro i H' hi ⟨s1, hd⟩;have ep : V.int ((k : Int) - 1 + (i : Nat) * -1) = V.int ((k - 1 - i : Nat) : Int) := by congr 1; omega
      rw [ep];refine ⟨rfl, ?_⟩;refine yes ?_;refine ⟨_, rfl, _, rfl, 8, _, rfl, rfl, .inl ⟨by decide, by decide⟩, n, 8 * (k - 1 - i), rfl, (by congr 1), _, 255, rfl, rfl, _, hd, ?_, ?_⟩
      · rw [j5, List.length_take, My.big_len];exact Nat.lt_of_le_of_lt (Nat.min_le_right _ _) (Nat.lt_of_le_of_lt hk (by decide))
      · refine ⟨Q3 s1 hD _, ?_⟩;rw [y1, My.take_get (My.big_get hi), Y3, My.mask8];show some (HO.lst (_ ++ [V.int ((n / 2 ^ (8 * (k - 1 - i)) % 256 : Nat) : Int)])) = some (HO.lst (_ ++ [V.int ((n / 256 ^ (k - 1 - i) % 256 : Nat) : Int)]));rw [Nat.pow_mul]
    · rintro H' ⟨s1, hd⟩;rw [List.take_of_length_le (by rw [My.big_len]; exact Nat.le_refl _)] at hd;exact q D H' s1 hD hd
end
end T3
namespace T3
open PySem PySem.Spec PyProof.Rows L2 G
open Sv20 (turn big three word ofBig slice begun rounds)
section
variable {P : Program} {w : World} {K : PySem.W.Frag} {mg : Str -> Option Value} {base : Heap} {aF aC : Addr}
theorem rep0 (k : Nat) : (List.replicate k (nv [0])).flatten = nv (List.replicate k 0) := by
  induction k with
  | zero => rfl
  | succ k ih =>
    rw [List.replicate_succ, List.flatten_cons, ih, List.replicate_succ];rfl
theorem scP : z7 ["data", "zeros"] ["data"] (y3 sPadded) := ⟨rfl, rfl, rfl, by decide +kernel, rfl, by decide +kernel, by decide +kernel⟩
theorem ok_padded {f : Addr} {fd : FuncData} (F : Fun K "padded" "padded" sPadded f fd) (T : Txt K mg aF aC) (CB : Callee P w K mg base "bytes_of" 1 ["number", "size"] spBytes) : FnOk P w K mg base CX0 2 f fd ["data"] spPadded := by
  refine F.ok scP (fun vs H Q E h => ?_) (fun cdv A outer s H vs Q E hr h => ?_)
  · obtain ⟨a, b, rfl, _⟩ := h;rfl
  · obtain ⟨a, b, rfl, ha, hb, q⟩ := h
    refine ⟨_, w4 (z6 (i := 1) scP.nd rfl (Or.inl rfl) (y8 (op_val op_mod) (y8 W7 (y8 W7 (x8 rfl T.blk) y2) (Z8 rfl T.len (pv 0))) (x8 rfl T.blk)))
      (w8 (y6 (y8 op_catQ (y8 op_catQ (y8 op_catQ (pv 0) (W6 (w6 y2 w9))) (y8 op_rep (W6 (w6 y2 w9)) (pv 1)))
        (j6 CB hr rfl (w6 (y8 op_mul y2 (Z8 rfl T.len (pv 0))) (w6 y2 w9)))))), ?_⟩
    have lz : sizeLine = 16777216 := rfl;have ez : ((64 : Int) - 9 - ((nv b).length : Nat)) % 64 = (((119 - b.length % 64) % 64 : Nat) : Int) := by rw [j5]; omega
    refine ⟨_, _, rfl, rfl, _, rfl, a, _, rfl, .inl (SqL.of ha), _, _, rfl, rfl, _, _, rfl, rfl, (by show (0 : Int) < 64; decide), _, congrArg V.int ez, ?_⟩;refine ⟨_, rfl, (by show 1 <= sizeLine; decide), fun p1 h1 => ?_⟩;have s1 : Same H (upd H p1 (.lst [.int 128])) := z8 h1 _;refine ⟨a, p1, _, _, rfl, rfl, SqL.of (s1 _ _ ha), SqL.of y1, (by rw [j5]; show b.length + 1 <= sizeLine; omega), fun p2 h2 => ?_⟩;have s2 := s1.trans (z8 h2 (.lst (nv b ++ [.int 128])));have k2 : (upd (upd H p1 (.lst [.int 128])) p2 (.lst (nv b ++ [.int 128]))) p2 = some (.lst (nv b ++ [.int 128])) := y1;generalize upd (upd H p1 (.lst [.int 128])) p2 (.lst (nv b ++ [.int 128])) = H2 at s2 k2;refine ⟨(by show 1 <= sizeLine; decide), fun p3 h3 => ?_⟩;have s3 : Same H2 (upd H2 p3 (.lst (nv [0]))) := z8 h3 _;refine ⟨_, rfl, p3, _, _, rfl, rfl, y1, (by omega), (by omega), ?_, fun p4 h4 => ?_⟩
    · show 1 * _ <= sizeLine;omega
    have e4 : (List.replicate ((((119 - b.length % 64) % 64 : Nat) : Int)).toNat (nv [0])).flatten = nv (List.replicate ((119 - b.length % 64) % 64) 0) := by rw [Int.toNat_natCast, rep0]
    have s4 : Same H2 (upd (upd H2 p3 (.lst (nv [0]))) p4 (.lst (List.replicate ((((119 - b.length % 64) % 64 : Nat) : Int)).toNat (nv [0])).flatten)) := s3.trans (z8 h4 _);have k4 : (upd (upd H2 p3 (.lst (nv [0]))) p4 (.lst (List.replicate ((((119 - b.length % 64) % 64 : Nat) : Int)).toNat (nv [0])).flatten)) p4 = some (.lst (nv (List.replicate ((119 - b.length % 64) % 64) 0))) := by rw [y1, e4]
    show rCatQ K (.ref p2) (.ref p4) (upd (upd H2 p3 (.lst (nv [0]))) p4 (.lst (List.replicate ((((119 - b.length % 64) % 64 : Nat) : Int)).toNat (nv [0])).flatten)) _;generalize upd (upd H2 p3 (.lst (nv [0]))) p4 (.lst (List.replicate ((((119 - b.length % 64) % 64 : Nat) : Int)).toNat (nv [0])).flatten) = H4 at s4 k4;refine ⟨p2, p4, _, _, rfl, rfl, SqL.of (s4 _ _ k2), SqL.of k4, ?_, fun p5 h5 => ?_⟩
    · rw [List.length_append, j5, j5, List.length_replicate];show b.length + 1 + _ <= sizeLine;omega
    have s5 := s4.trans (z8 h5 (.lst ((nv b ++ [.int 128]) ++ nv (List.replicate ((119 - b.length % 64) % 64) 0))));have k5 : (upd H4 p5 (.lst ((nv b ++ [.int 128]) ++ nv (List.replicate ((119 - b.length % 64) % 64) 0)))) p5 = _ := y1;generalize upd H4 p5 (.lst ((nv b ++ [.int 128]) ++ nv (List.replicate ((119 - b.length % 64) % 64) 0))) = H5 at s5 k5;have a5 : H5 a = some (.lst (nv b)) := s5 _ _ (s2 _ _ ha);refine ⟨_, rfl, a, _, rfl, .inl (SqL.of a5), 8, _, rfl, rfl, .inl ⟨by decide, by decide⟩, 8 * b.length, 8, (by rw [j5]; rfl), by decide, fun p6 H6 s6 n6 k6 => ?_⟩;refine ⟨p5, p6, _, _, rfl, rfl, SqL.of (s6 _ _ k5), SqL.of k6, ?_, fun p7 h7 => ?_⟩
    · rw [List.length_append, List.length_append, j5, j5, j5, List.length_replicate, My.big_len];show b.length + 1 + _ + 8 <= sizeLine;omega
    refine q p7 _ (((s2.trans s5).trans s6).trans (z8 h7 _)) (Same.free ((s2.trans s5).trans s6) h7) ?_;rw [y1];unfold My.pad;rw [Y3];show some (HO.lst (nv b ++ [V.int 128] ++ nv _ ++ nv _)) = some (HO.lst (nv b ++ (V.int 128 :: nv (_ ++ _))));rw [Y3, List.append_assoc, List.append_assoc];rfl
end
end T3
namespace T3
open PySem PySem.Spec PyProof.Rows L2 G
open Sv20 (turn big three word ofBig slice begun rounds)
theorem get_lt {l : List Nat} {i n m : Nat} (h : ∀ x ∈ l, x < m) (e : l[i]? = some n) : n < m := h n (List.mem_of_getElem? e)
theorem get_ex {l : List Nat} {i : Nat} (h : i < l.length) : ∃ n, l[i]? = some n := ⟨_, List.getElem?_eq_getElem h⟩
theorem at_nv {l : List Nat} {i n : Nat} {z : Int} (e : z = (i : Int)) (h : l[i]? = some n) : atI (nv l) z = some (.int (n : Int)) := at_of e (nv_get h)
theorem ws1_lt {b : List Nat} (hb : b.length = 64) (h : ∀ x ∈ b, x < 256) : ∀ i, i <= 16 -> ∀ x ∈ My.ws1 b i, x < 4294967296
  | 0, _, x, hx => by simp [My.ws1] at hx
  | i + 1, hi, x, hx => by
    rw [My.ws1_succ] at hx;rcases List.mem_append.mp hx with q | q
    · exact ws1_lt hb h i (by omega) x q
    · obtain ⟨p, hp⟩ := get_ex (l := b) (i := 4 * i) (by omega);obtain ⟨q1, hq⟩ := get_ex (l := b) (i := 4 * i + 1) (by omega);obtain ⟨r, hr⟩ := get_ex (l := b) (i := 4 * i + 2) (by omega);obtain ⟨s, hs⟩ := get_ex (l := b) (i := 4 * i + 3) (by omega);rw [List.mem_singleton.mp q, My.slice4 hp hq hr hs];exact My.ofBig4_lt (get_lt h hp) (get_lt h hq) (get_lt h hr) (get_lt h hs)
theorem grow_lt {l : List Nat} (h : ∀ x ∈ l, x < 4294967296) : ∀ x ∈ My.grow l, x < 4294967296 := by
  intro x hx;unfold My.grow at hx;rcases List.mem_append.mp hx with q | q
  · exact h x q
  · rw [List.mem_singleton.mp q];exact My.word_lt _
theorem ws2_lt {l : List Nat} (h : ∀ x ∈ l, x < 4294967296) : ∀ i, ∀ x ∈ My.ws2 l i, x < 4294967296
  | 0 => h
  | i + 1 => grow_lt (ws2_lt h i)
section
variable {P : Program} {w : World} {K : PySem.W.Frag} {mg : Str -> Option Value} {base : Heap} {aF aC : Addr}
theorem scW : z7 ["block", "words", "at", "near", "far", "from_near", "from_far"] ["block"] (y3 sSpread) := ⟨rfl, rfl, rfl, by decide +kernel, rfl, by decide +kernel, by decide +kernel⟩
theorem ok_spread {f : Addr} {fd : FuncData} (F : Fun K "spread_words" "spread_words" sSpread f fd) (T : Txt K mg aF aC) (CT : Callee P w K mg base "turned" 1 ["word", "steps"] spTurned) : FnOk P w K mg base CX0 2 f fd ["block"] spSpread := by
  refine F.ok scW (fun vs H Q E h => ?_) (fun cdv A outer s H vs Q E hr h => ?_)
  · obtain ⟨a, b, rfl, _⟩ := h;rfl
  · obtain ⟨a, b, rfl, ha, hb, hlt, q⟩ := h;have lz : sizeLine = 16777216 := rfl
    refine ⟨_, w4 (z6 (i := 1) scW.nd rfl (Or.inl rfl) (W6 w9))
      (w4 (ps_for PassesOwn.never rfl (pi_range3 rfl T.range (w6 y2 (w6 (x8 rfl T.blk) (w6 y2 w9)))) (k9 (i := 2) scW.nd rfl (Or.inl rfl))
        (w8 (k8 (pe_bm PySem.F.plainAttrs_list PySem.F.slot_list_append PySem.F.type_list_append mt_append (pv 1) (w6
          (y8 n_or (y8 n_or (y8 n_or (y8 n_shl (Q8 v8 (pv 0) (pv 2) (fun _ _ => rfl)) y2) (y8 n_shl (Q8 v8 (pv 0) (y8 Z2 (pv 2) y2) (fun _ _ => rfl)) y2)) (y8 n_shl (Q8 v8 (pv 0) (y8 Z2 (pv 2) y2) (fun _ _ => rfl)) y2)) (Q8 v8 (pv 0) (y8 Z2 (pv 2) y2) (fun _ _ => rfl))) w9)))))
      (w4 (ps_for PassesOwn.never rfl (pi_range2 rfl T.range (w6 y2 (w6 y2 w9))) (k9 (i := 2) scW.nd rfl (Or.inl rfl))
        (w4 (z6 (i := 3) scW.nd rfl (Or.inl rfl) (Q8 v8 (pv 1) (y8 W7 (pv 2) y2) (fun _ _ => rfl)))
        (w4 (z6 (i := 4) scW.nd rfl (Or.inl rfl) (Q8 v8 (pv 1) (y8 W7 (pv 2) y2) (fun _ _ => rfl)))
        (w4 (z6 (i := 5) scW.nd rfl (Or.inl rfl) (y8 n_xor (y8 n_xor (j6 CT hr rfl (w6 (pv 3) (w6 y2 w9))) (j6 CT hr rfl (w6 (pv 3) (w6 y2 w9)))) (y8 n_shr (pv 3) y2)))
        (w4 (z6 (i := 6) scW.nd rfl (Or.inl rfl) (y8 n_xor (y8 n_xor (j6 CT hr rfl (w6 (pv 4) (w6 y2 w9))) (j6 CT hr rfl (w6 (pv 4) (w6 y2 w9)))) (y8 n_shr (pv 4) y2)))
        (w8 (k8 (pe_bm PySem.F.plainAttrs_list PySem.F.slot_list_append PySem.F.type_list_append mt_append (pv 1) (w6
          (y8 n_and (y8 Q2 (y8 Q2 (y8 Q2 (pv 5) (Q8 v8 (pv 1) (y8 W7 (pv 2) y2) (fun _ _ => rfl))) (pv 6)) (Q8 v8 (pv 1) (y8 W7 (pv 2) y2) (fun _ _ => rfl))) (x8 rfl T.wrd)) w9)))))))))
      (w8 (y6 (pv 1))))), ?_⟩
    refine ⟨Nat.zero_le _, fun p hp => ?_⟩
    refine ⟨0, 64, 4, 16, rfl, ⟨by decide, by decide, by decide, by decide⟩, for_rangeC (fun i σ H' => ∃ v : Option V, σ = [some (.ref a), some (.ref p), v, none, none, none, none] /\ Same H H' /\ H' p = some (.lst (nv (My.ws1 b i))))
      ⟨none, rfl, z8 hp _, y1⟩ ?_ ?_⟩
    · rintro i σ H' hi ⟨v, rfl, s1, k1⟩;have a1 := s1 _ _ ha;obtain ⟨c0, e0⟩ := get_ex (l := b) (i := 4 * i) (by omega);obtain ⟨c1, e1⟩ := get_ex (l := b) (i := 4 * i + 1) (by omega);obtain ⟨c2, e2⟩ := get_ex (l := b) (i := 4 * i + 2) (by omega);obtain ⟨c3, e3⟩ := get_ex (l := b) (i := 4 * i + 3) (by omega);have l0 := get_lt hlt e0;have l1 := get_lt hlt e1;have l2 := get_lt hlt e2;have l3 := get_lt hlt e3
      refine ⟨_, rfl, .inl ⟨rfl, _, SqL.of k1⟩,
        _, rfl, _, rfl, a, _, _, _, rfl, rfl, SqL.of a1, at_nv (by omega) e0, c0, 24, rfl, rfl, ⟨by omega, by omega⟩,
        _, rfl, _, rfl, _, _, rfl, rfl, a, _, _, _, rfl, rfl, SqL.of a1, at_nv (by omega) e1, c1, 16, rfl, rfl, ⟨by omega, by omega⟩, _, _, rfl, rfl,
        _, rfl, _, rfl, _, _, rfl, rfl, a, _, _, _, rfl, rfl, SqL.of a1, at_nv (by omega) e2, c2, 8, rfl, rfl, ⟨by omega, by omega⟩, _, _, rfl, rfl,
        _, rfl, _, rfl, _, _, rfl, rfl, a, _, _, _, rfl, rfl, SqL.of a1, at_nv (by omega) e3, _, _, rfl, rfl,
        p, _, _, rfl, rfl, k1, (by rw [j5, My.ws1_len]; omega), ?_⟩
      refine ⟨_, rfl, Q3 s1 hp _, ?_⟩;rw [y1, My.ws1_succ, Y3, My.ofBig4 l0 l1 l2 l3, My.slice4 e0 e1 e2 e3];rfl
    · rintro σ H' ⟨v, rfl, s1, k1⟩
      refine ⟨16, 64, rfl, ⟨by decide, by decide, by decide, by decide⟩, for_range (lo := 16) (n := 48) (fun i σ H' => ∃ v2 v3 v4 v5 v6 : Option V, σ = [some (.ref a), some (.ref p), v2, v3, v4, v5, v6] /\ Same H H' /\ H' p = some (.lst (nv (My.ws2 (My.ws1 b 16) i))))
        ⟨_, _, _, _, _, rfl, s1, k1⟩ ?_ ?_⟩
      · rintro i σ H' hi ⟨v2, v3, v4, v5, v6, rfl, s1, k1⟩;have ln : (My.ws2 (My.ws1 b 16) i).length = 16 + i := by rw [My.ws2_len, My.ws1_len]
        have wl := ws2_lt (ws1_lt hb hlt 16 (Nat.le_refl _)) i;have gs : My.ws2 (My.ws1 b 16) (i + 1) = My.grow (My.ws2 (My.ws1 b 16) i) := rfl;rw [gs];generalize My.ws2 (My.ws1 b 16) i = W at ln wl k1;obtain ⟨b2, e2⟩ := get_ex (l := W) (i := 16 + i - 2) (by omega);obtain ⟨b7, e7⟩ := get_ex (l := W) (i := 16 + i - 7) (by omega);obtain ⟨b15, e15⟩ := get_ex (l := W) (i := 16 + i - 15) (by omega);obtain ⟨b16, e16⟩ := get_ex (l := W) (i := 16 + i - 16) (by omega);have l2 := get_lt wl e2;have l15 := get_lt wl e15;refine ⟨_, rfl, _, rfl, _, _, rfl, rfl, p, _, _, _, rfl, rfl, SqL.of k1, at_nv (by omega) e2, ?_⟩;refine ⟨_, rfl, _, rfl, _, _, rfl, rfl, p, _, _, _, rfl, rfl, SqL.of k1, at_nv (by omega) e15, ?_⟩;refine ⟨_, rfl, b2, 17, rfl, l2, by decide, _, rfl, b2, 19, rfl, l2, by decide, _, _, rfl, rfl, _, rfl, b2, 10, rfl, rfl, _, _, rfl, rfl, ?_⟩;refine ⟨_, rfl, b15, 7, rfl, l15, by decide, _, rfl, b15, 18, rfl, l15, by decide, _, _, rfl, rfl, _, rfl, b15, 3, rfl, rfl, _, _, rfl, rfl, ?_⟩;refine ⟨_, rfl, .inl ⟨rfl, _, SqL.of k1⟩, _, rfl, _, rfl, _, rfl, _, _, rfl, rfl, p, _, _, _, rfl, rfl, SqL.of k1, at_nv (by omega) e7, _, _, rfl, rfl, _, rfl, _, _, rfl, rfl, _, rfl, _, rfl, _, _, rfl, rfl, p, _, _, _, rfl, rfl, SqL.of k1, at_nv (by omega) e16, _, _, rfl, rfl, _, 4294967295, rfl, rfl, ?_⟩;refine ⟨p, _, _, rfl, rfl, k1, (by rw [j5]; omega), ?_⟩;refine ⟨_, _, _, _, _, rfl, Q3 s1 hp _, ?_⟩;rw [y1, My.grow_is ln e2 e7 e15 e16, Y3, My.mask32, My.three_is, My.three_is];rfl
      · rintro σ H' ⟨v2, v3, v4, v5, v6, rfl, s1, k1⟩;refine ⟨_, rfl, ?_⟩;exact q p H' s1 hp k1
end
end T3
namespace T3
open PySem PySem.Spec PyProof.Rows L2 G
open Sv20 (turn big three word ofBig slice begun rounds)
section
variable {P : Program} {w : World} {K : PySem.W.Frag} {mg : Str -> Option Value} {base : Heap} {aF aC : Addr}
abbrev nS : List Str := ["state", "block", "a", "b", "c", "d", "e", "f", "g", "h", "word", "constant", "turned_e", "chosen", "first", "turned_a", "majority", "old", "new"]
theorem scS : z7 nS ["state", "block"] (y3 sBehind) := ⟨rfl, rfl, rfl, by decide +kernel, rfl, by decide +kernel, by decide +kernel⟩
theorem eight {s : List Nat} (h : s.length = 8) : ∃ a b c d e f g i, s = [a, b, c, d, e, f, g, i] := by
  match s, h with
  | [a, b, c, d, e, f, g, i], _ => exact ⟨a, b, c, d, e, f, g, i, rfl⟩
structure Eight (l : List Nat) (a b c d e f g h : Nat) : Prop where
  eq : l = [a, b, c, d, e, f, g, h]
  la : a < 4294967296
  lb : b < 4294967296
  lc : c < 4294967296
  ld : d < 4294967296
  le : e < 4294967296
  lf : f < 4294967296
  lg : g < 4294967296
  lh : h < 4294967296
theorem Eight.of {a b c d e f g h : Nat} (q : ∀ x ∈ [a, b, c, d, e, f, g, h], x < 4294967296) : Eight [a, b, c, d, e, f, g, h] a b c d e f g h :=
  ⟨rfl, q a (by simp), q b (by simp), q c (by simp), q d (by simp), q e (by simp), q f (by simp), q g (by simp), q h (by simp)⟩
theorem Eight.step {l : List Nat} {a b c d e f g h k w X1 C F Y M : Nat} (q : Eight l a b c d e f g h) (hX : X1 = three (turn 6 e) (turn 11 e) (turn 25 e)) (hC : C = Nat.xor (Nat.land e f) (Nat.land (Nat.xor e 4294967295) g)) (hF : F = h + X1 + C + k + w)
    (hY : Y = three (turn 2 a) (turn 13 a) (turn 22 a)) (hM : M = three (Nat.land a b) (Nat.land a c) (Nat.land b c)) : Eight (Sv20.step l k w) (word (F + Y + M)) a b c (word (d + F)) e f g := by
  rw [q.eq, My.step_is q.le hX hC hF hY hM];exact ⟨rfl, My.word_lt _, q.la, q.lb, q.lc, My.word_lt _, q.le, q.lf, q.lg⟩
theorem ok_behind {f : Addr} {fd : FuncData} (F : Fun K "state_behind" "state_behind" sBehind f fd) (T : Txt K mg aF aC) (CT : Callee P w K mg base "turned" 1 ["word", "steps"] spTurned) (CS : Callee P w K mg base "spread_words" 2 ["block"] spSpread) :
    FnOk P w K mg base CX0 3 f fd ["state", "block"] spBehind := by
  refine F.ok scS (fun vs H Q E h => ?_) (fun cdv A outer s H vs Q E hr h => ?_)
  · obtain ⟨c, a, s, b, rfl, _⟩ := h;rfl
  · obtain ⟨pc, pb, st, b, rfl, hc, hbk, h8, hst, hb, hlt, q⟩ := h;have lz : sizeLine = 16777216 := rfl;have hr1 : Room 1 _ := hr.mono (by decide)
    refine ⟨_, (w4 (z6 (i := 2) scS.nd rfl (Or.inl rfl) (Q8 v8 (pv 0) y2 (fun _ _ => rfl)))
      (w4 (z6 (i := 3) scS.nd rfl (Or.inl rfl) (Q8 v8 (pv 0) y2 (fun _ _ => rfl)))
      (w4 (z6 (i := 4) scS.nd rfl (Or.inl rfl) (Q8 v8 (pv 0) y2 (fun _ _ => rfl)))
      (w4 (z6 (i := 5) scS.nd rfl (Or.inl rfl) (Q8 v8 (pv 0) y2 (fun _ _ => rfl)))
      (w4 (z6 (i := 6) scS.nd rfl (Or.inl rfl) (Q8 v8 (pv 0) y2 (fun _ _ => rfl)))
      (w4 (z6 (i := 7) scS.nd rfl (Or.inl rfl) (Q8 v8 (pv 0) y2 (fun _ _ => rfl)))
      (w4 (z6 (i := 8) scS.nd rfl (Or.inl rfl) (Q8 v8 (pv 0) y2 (fun _ _ => rfl)))
      (w4 (z6 (i := 9) scS.nd rfl (Or.inl rfl) (Q8 v8 (pv 0) y2 (fun _ _ => rfl)))
      (w4 (ps_for PassesOwn.never rfl (Zt.pi_zt rfl T.zip (w6 (j6 CS hr rfl (w6 (pv 1) w9)) (w6 (pe_glob (v := .ref aC) rfl T.cs rfl) w9))) (pg_tup (n := 2) rfl (W3 (k9 (i := 10) scS.nd rfl (Or.inl rfl)) (W3 (k9 (i := 11) scS.nd rfl (Or.inl rfl)) pgs_nil)))
      (w4 (z6 (i := 12) scS.nd rfl (Or.inl rfl) (y8 n_xor (y8 n_xor (j6 CT hr1 rfl (w6 (pv 6) (w6 y2 w9))) (j6 CT hr1 rfl (w6 (pv 6) (w6 y2 w9)))) (j6 CT hr1 rfl (w6 (pv 6) (w6 y2 w9)))))
      (w4 (z6 (i := 13) scS.nd rfl (Or.inl rfl) (y8 n_xor (y8 n_and (pv 6) (pv 7)) (y8 n_and (y8 n_xor (pv 6) (x8 rfl T.wrd)) (pv 8))))
      (w4 (z6 (i := 14) scS.nd rfl (Or.inl rfl) (y8 Q2 (y8 Q2 (y8 Q2 (y8 Q2 (pv 9) (pv 12)) (pv 13)) (pv 11)) (pv 10)))
      (w4 (z6 (i := 15) scS.nd rfl (Or.inl rfl) (y8 n_xor (y8 n_xor (j6 CT hr1 rfl (w6 (pv 2) (w6 y2 w9))) (j6 CT hr1 rfl (w6 (pv 2) (w6 y2 w9)))) (j6 CT hr1 rfl (w6 (pv 2) (w6 y2 w9)))))
      (w4 (z6 (i := 16) scS.nd rfl (Or.inl rfl) (y8 n_xor (y8 n_xor (y8 n_and (pv 2) (pv 3)) (y8 n_and (pv 2) (pv 4))) (y8 n_and (pv 3) (pv 4))))
      (w4 (z6 (i := 9) scS.nd rfl (Or.inl rfl) (pv 8))
      (w4 (z6 (i := 8) scS.nd rfl (Or.inl rfl) (pv 7))
      (w4 (z6 (i := 7) scS.nd rfl (Or.inl rfl) (pv 6))
      (w4 (z6 (i := 6) scS.nd rfl (Or.inl rfl) (y8 n_and (y8 Q2 (pv 5) (pv 14)) (x8 rfl T.wrd)))
      (w4 (z6 (i := 5) scS.nd rfl (Or.inl rfl) (pv 4))
      (w4 (z6 (i := 4) scS.nd rfl (Or.inl rfl) (pv 3))
      (w4 (z6 (i := 3) scS.nd rfl (Or.inl rfl) (pv 2))
      (w8 (z6 (i := 2) scS.nd rfl (Or.inl rfl) (y8 n_and (y8 Q2 (y8 Q2 (pv 14) (pv 15)) (pv 16)) (x8 rfl T.wrd)))))))))))))))))
      (w8 (y6 (pe_lc (own := [("old", 17), ("new", 18)]) (g := gTup K 2 (gCons (gName 17) (gCons (gName 18) gNil))) rfl scS.nd (pi_zip rfl T.zip (w6 (pv 0) (w6 (W6 (pa_names (is := [2, 3, 4, 5, 6, 7, 8, 9]) (by show namesOk nS (y3 sBehind) _ _ = true; decide +kernel))) w9)))
        (Y8 (by show blkC nS (y3 sBehind) _ [("old", 17), ("new", 18)] = true; decide +kernel))
        (fun s H C cl fp => (pg_tup (n := 2) rfl (W3 (k9 (i := 17) scS.nd rfl (Or.inl rfl) (Or.inr rfl)) (W3 (k9 (i := 18) scS.nd rfl (Or.inl rfl) (Or.inr rfl)) pgs_nil)))) (fun s H C cl fp => pts_nil) (fun s H C cl fp => y8 n_and (y8 Q2 (pv 17) (pv 18)) (x8 rfl T.wrd)))))))))))))), ?_⟩
    obtain ⟨s0, s1, s2', s3, s4, s5, s6, s7, rfl⟩ := eight h8;have e0 := Eight.of hst
    refine ⟨_, rfl, pc, _, _, _, rfl, rfl, SqL.of hc, at_nv (i := 0) rfl rfl, _, rfl, pc, _, _, _, rfl, rfl, SqL.of hc, at_nv (i := 1) rfl rfl, _, rfl, pc, _, _, _, rfl, rfl, SqL.of hc, at_nv (i := 2) rfl rfl, _, rfl, pc, _, _, _, rfl, rfl, SqL.of hc, at_nv (i := 3) rfl rfl,
      _, rfl, pc, _, _, _, rfl, rfl, SqL.of hc, at_nv (i := 4) rfl rfl, _, rfl, pc, _, _, _, rfl, rfl, SqL.of hc, at_nv (i := 5) rfl rfl, _, rfl, pc, _, _, _, rfl, rfl, SqL.of hc, at_nv (i := 6) rfl rfl, _, rfl, pc, _, _, _, rfl, rfl, SqL.of hc, at_nv (i := 7) rfl rfl, ?_⟩
    refine ⟨_, rfl, pb, b, rfl, hbk, hb, hlt, fun p H1 q1 n1 k1 => ?_⟩;have ln : (My.ws2 (My.ws1 b 16) 48).length = 64 := by rw [My.ws2_len, My.ws1_len]
    have bi := My.block_is (s := [s0, s1, s2', s3, s4, s5, s6, s7]) (b := b);rw [bi] at q;generalize My.ws2 (My.ws1 b 16) 48 = W at ln k1 q
    refine ⟨p, aC, _, _, rfl, SqL.of k1, T.csv _, for_zt (K := K) (a := p) (b := aC) (xs := nv W) (ys := nv rounds)
      (fun i σ H' => ∃ (a b c d e f g h : Nat) (v10 v11 v12 v13 v14 v15 v16 : Option V), σ = [some (.ref pc), some (.ref pb), some (.int a), some (.int b), some (.int c), some (.int d), some (.int e), some (.int f), some (.int g), some (.int h), v10, v11, v12, v13, v14, v15, v16, none, none] /\ Same H1 H' /\ Eight (My.runs [s0, s1, s2', s3, s4, s5, s6, s7] W i) a b c d e f g h)
      (by rw [j5, j5, My.rounds_len]; omega) ⟨s0, s1, s2', s3, s4, s5, s6, s7, none, none, none, none, none, none, none, rfl, Same.refl _, e0⟩ ?_ ?_ ?_⟩
    · rintro i σ H' _ ⟨a, b, c, d, e, f, g, h, _, _, _, _, _, _, _, _, z1, _⟩;exact ⟨SqL.of (z1 _ _ k1), T.csv _⟩
    · rintro i x y TT σ H' hx hy hT ⟨a, b, c, d, e, f, g, h, v10, v11, v12, v13, v14, v15, v16, rfl, z1, ei⟩;obtain ⟨wd, hw, rfl⟩ := nv_ex hx;obtain ⟨kn, hk, rfl⟩ := nv_ex hy;refine ⟨TT, _, rfl, SqT.of y1, rfl, _, _, rfl, _, _, rfl, rfl, ?_⟩;refine ⟨_, rfl, e, 6, rfl, ei.le, by decide, _, rfl, e, 11, rfl, ei.le, by decide, _, _, rfl, rfl, _, rfl, e, 25, rfl, ei.le, by decide, _, _, rfl, rfl, ?_⟩;refine ⟨_, rfl, _, rfl, _, _, rfl, rfl, _, rfl, _, 4294967295, rfl, rfl, _, rfl, _, _, rfl, rfl, _, _, rfl, rfl, ?_⟩;refine ⟨_, rfl, _, rfl, _, _, rfl, rfl, _, rfl, _, _, rfl, rfl, _, rfl, _, _, rfl, rfl, _, rfl, _, _, rfl, rfl, ?_⟩;refine ⟨_, rfl, a, 2, rfl, ei.la, by decide, _, rfl, a, 13, rfl, ei.la, by decide, _, _, rfl, rfl, _, rfl, a, 22, rfl, ei.la, by decide, _, _, rfl, rfl, ?_⟩;refine ⟨_, rfl, _, rfl, _, _, rfl, rfl, _, rfl, _, rfl, _, _, rfl, rfl, _, _, rfl, rfl, _, rfl, _, rfl, _, _, rfl, rfl, _, _, rfl, rfl, ?_⟩;refine ⟨_, rfl, _, rfl, _, rfl, ?_⟩;refine ⟨_, rfl, _, rfl, _, _, rfl, rfl, _, 4294967295, rfl, rfl, ?_⟩;refine ⟨_, rfl, _, rfl, _, rfl, ?_⟩;refine ⟨_, rfl, _, rfl, _, _, rfl, rfl, _, rfl, _, _, rfl, rfl, _, 4294967295, rfl, rfl, ?_⟩;have es := ei.step (k := kn) (w := wd) (My.three_is _ _ _) rfl rfl (My.three_is _ _ _) (My.three_is _ _ _);rw [<- My.runs_succ hk hw] at es;rw [My.mask32, My.mask32];exact ⟨_, _, _, _, _, _, _, _, _, _, _, _, _, _, _, rfl, z1.trans (z8 hT _), es⟩
    · rintro σ H' ⟨a, b, c, d, e, f, g, h, v10, v11, v12, v13, v14, v15, v16, rfl, z1, ei⟩;rw [j5, ln] at ei;rw [ei.eq] at q;have sH : Same H H' := q1.trans z1;refine ⟨_, rfl, [.int a, .int b, .int c, .int d, .int e, .int f, .int g, .int h], rfl, (by show 8 <= sizeLine; decide), fun pl hl => ?_⟩;have cH := sH _ _ hc;have z2 : Same H' (upd H' pl (.lst [.int a, .int b, .int c, .int d, .int e, .int f, .int g, .int h])) := z8 hl _;have k2 : (upd H' pl (.lst [.int a, .int b, .int c, .int d, .int e, .int f, .int g, .int h])) pl = some (.lst (nv [a, b, c, d, e, f, g, h])) := y1;show ∃ _ _ _ _, _ /\ _;have cH2 := z2 _ _ cH;generalize upd H' pl (.lst [.int a, .int b, .int c, .int d, .int e, .int f, .int g, .int h]) = H2 at z2 k2 cH2 ⊢;refine ⟨pc, pl, nv [s0, s1, s2', s3, s4, s5, s6, s7], nv [a, b, c, d, e, f, g, h], rfl, SqL.of cH2, SqL.of k2, fun D hD => ?_⟩;refine lc_zip (K := K) (xs := nv [s0, s1, s2', s3, s4, s5, s6, s7]) (ys := nv [a, b, c, d, e, f, g, h]) (fun i H3 => Same H2 H3 /\ H3 D = some (.lst (nv ((([s0, s1, s2', s3, s4, s5, s6, s7].zip [a, b, c, d, e, f, g, h]).map fun x => word (x.1 + x.2)).take i)))) rfl ⟨z8 hD _, y1⟩ ?_ ?_ ?_
      · rintro i H3 _ ⟨z3, _⟩;exact ⟨SqL.of (z3 _ _ cH2), SqL.of (z3 _ _ k2)⟩
      · rintro i x y TT H3 hx hy hT ⟨z3, k3⟩;obtain ⟨m, hm, rfl⟩ := nv_ex hx;obtain ⟨n, hn, rfl⟩ := nv_ex hy;refine ⟨TT, _, rfl, SqT.of y1, rfl, _, _, rfl, _, _, rfl, rfl, rfl, yes ?_⟩;refine ⟨_, rfl, _, rfl, m, n, rfl, rfl, _, 4294967295, rfl, rfl, _, (by rw [y9 (y4 k3 hT)]; exact k3), ?_, Q3 (z3.trans (z8 hT _)) hD _, ?_⟩
        · rw [j5, List.length_take];exact Nat.lt_of_le_of_lt (Nat.min_le_right _ _) (by show 8 < sizeLine; decide)
        · rw [y1, My.take_get (x := word (m + n)) (by rw [List.getElem?_map, (List.getElem?_zip_eq_some (z := (m, n))).mpr ⟨hm, hn⟩]; rfl), Y3, My.mask32];rfl
      · rintro H3 ⟨z3, k3⟩;rw [List.take_of_length_le (by exact Nat.le_refl _)] at k3;exact q D H3 (sH.trans (z2.trans z3)) (Same.free (sH.trans z2) hD) k3
end
end T3
namespace T3
open PySem PySem.Spec PyProof.Rows L2 G
open Sv20 (turn big three word ofBig slice begun rounds)
theorem rg64 {n : Nat} (h : n <= 1000000) : RgC 0 ((64 * n : Nat) : Int) 64 n := by
  have e : Builtin.Range.rangeSize 0 ((64 * n : Nat) : Int) 64 = n := by
    unfold Builtin.Range.rangeSize;rw [if_pos (by decide)];by_cases h0 : (0 : Int) < ((64 * n : Nat) : Int)
    · rw [if_pos h0]; omega
    · rw [if_neg h0]; omega
  have ft : ∀ z : Int, 0 <= z -> z <= 65000000 -> Builtin.Range.rangeFitsLong z = true := fun z h1 h2 => by
    unfold Builtin.Range.rangeFitsLong;rw [Bool.and_eq_true, decide_eq_true_eq, decide_eq_true_eq];omega
  refine ⟨by decide, by decide, ?_, e⟩;unfold Builtin.Range.small;rw [e, ft 0 (by omega) (by omega), ft _ (by omega) (by omega), ft 64 (by omega) (by omega), ft (n : Int) (by omega) (by omega)];rw [if_pos (by decide), ft _ (by omega) (by omega)];simp
theorem cut_nv {p : List Nat} {i : Nat} (h : 64 * i + 64 <= p.length) : cutV (nv p) (some ((64 * i : Nat) : Int)) (some ((64 * i + 64 : Nat) : Int)) = nv (slice p (64 * i) 64) := by
  unfold cutV slice;rw [HT.sIx_nat, HT.sIx_nat, j5, Nat.min_eq_left (by omega), Nat.min_eq_left (by omega)];unfold nv;rw [<- List.map_drop, <- List.map_take]
  congr 2
  omega
theorem flat_snoc {l : List Nat} {i n : Nat} (h : l[i]? = some n) : (l.take (i + 1)).flatMap (big 4) = (l.take i).flatMap (big 4) ++ big 4 n := by
  rw [My.take_get h, List.flatMap_append];simp
theorem flat_le (l : List Nat) : (l.flatMap (big 4)).length = 4 * l.length := by
  induction l with
  | nil => rfl
  | cons a l ih => rw [List.flatMap_cons, List.length_append, ih, My.big_len, List.length_cons]; omega
section
variable {P : Program} {w : World} {K : PySem.W.Frag} {mg : Str -> Option Value} {base : Heap} {aF aC : Addr}
theorem scH : z7 ["data", "text", "state", "start", "digest", "word"] ["data"] (y3 sSha) := ⟨rfl, rfl, rfl, by decide +kernel, rfl, by decide +kernel, by decide +kernel⟩
theorem ok_sha {f : Addr} {fd : FuncData} (F : Fun K "sha256" "sha256" sSha f fd) (T : Txt K mg aF aC) (CB : Callee P w K mg base "bytes_of" 1 ["number", "size"] spBytes) (CP : Callee P w K mg base "padded" 2 ["data"] spPadded)
    (CS : Callee P w K mg base "state_behind" 3 ["state", "block"] spBehind) : FnOk P w K mg base CX0 4 f fd ["data"] spSha := by
  refine F.ok scH (fun vs H Q E h => ?_) (fun cdv A outer s H vs Q E hr h => ?_)
  · obtain ⟨a, b, rfl, _⟩ := h;rfl
  · obtain ⟨a, b, rfl, ha, hb, hlt, q⟩ := h;have lz : sizeLine = 16777216 := rfl;have hr1 : Room 1 _ := hr.mono (by decide);have hr2 : Room 2 _ := hr.mono (by decide)
    refine ⟨_, w4 (z6 (i := 1) scH.nd rfl (Or.inl rfl) (j6 CP hr2 rfl (w6 (pv 0) w9)))
      (w4 (z6 (i := 2) scH.nd rfl (Or.inl rfl) (pe_callTy call_list_of rfl T.list PyProof.Rows.boot_list (w6 (pe_glob (v := .ref aF) rfl T.fs rfl) w9)))
      (w4 (ps_for PassesOwn.never rfl (pi_range3 rfl T.range (w6 y2 (w6 (Z8 rfl T.len (pv 1)) (w6 (x8 rfl T.blk) w9)))) (k9 (i := 3) scH.nd rfl (Or.inl rfl))
        (w8 (z6 (i := 2) scH.nd rfl (Or.inl rfl) (j6 CS hr rfl (w6 (pv 2) (w6 (Y7 sl_list (pv 1) (Q5 (pv 3)) (Q5 (y8 Z2 (pv 3) (x8 rfl T.blk)))) w9))))))
      (w4 (z6 (i := 4) scH.nd rfl (Or.inl rfl) (W6 w9))
      (w4 (ps_for PassesOwn.never rfl (pi_list (pv 2)) (k9 (i := 5) scH.nd rfl (Or.inl rfl))
        (w8 (k8 (pe_bm PySem.F.plainAttrs_list PySem.F.slot_list_extend PySem.F.type_list_extend mt_extend (pv 4) (w6 (j6 CB hr1 rfl (w6 (pv 5) (w6 y2 w9))) w9)))))
      (w8 (y6 (pv 4))))))), ?_⟩
    refine ⟨_, rfl, a, b, rfl, ha, hb, fun p H1 s1 n1 k1 => ?_⟩;have pl := My.pad_len b;have ple := My.pad_le b;have plt := My.pad_lt hlt;have es := My.sha_is b;rw [es] at q;have sl8 := My.sts_len (My.pad b);have slt := My.sts_lt (My.pad b);obtain ⟨n, hn⟩ : ∃ n, (My.pad b).length = 64 * n := ⟨(My.pad b).length / 64, by omega⟩;have en : (My.pad b).length / 64 = n := by omega
    rw [en] at q;generalize My.pad b = p0 at k1 q plt sl8 slt hn ple;refine ⟨aF, _, rfl, .inr (T.fsv _), fun c hc => ?_⟩;have s2 : Same H1 (upd H1 c (.lst (nv begun))) := z8 hc _;have k2 : (upd H1 c (.lst (nv begun))) c = some (.lst (nv (My.sts p0 0))) := y1;have k1' := s2 _ _ k1;have sA := s1.trans s2;generalize upd H1 c (.lst (nv begun)) = H2 at s2 k2 k1' sA
    refine ⟨_, rfl, p, _, rfl, .inl (SqL.of k1'), 0, ((64 * n : Nat) : Int), 64, n, (by rw [j5, hn]), rg64 (by omega), for_rangeC (fun i σ H' => ∃ (c : Addr) (v : Option V), σ = [some (.ref a), some (.ref p), some (.ref c), v, none, none] /\ Same H2 H' /\ H' c = some (.lst (nv (My.sts p0 i))))
      ⟨c, none, rfl, Same.refl _, k2⟩ ?_ ?_⟩
    · rintro i σ H' hi ⟨c, v, rfl, s3, k3⟩;have ei : V.int (0 + (i : Nat) * 64) = V.int ((64 * i : Nat) : Int) := by congr 1; omega
      rw [ei];refine ⟨_, rfl, _, rfl, _, rfl, _, rfl, _, rfl, _, _, rfl, rfl, _, rfl, p, _, rfl, SqL.of (s3 _ _ k1'), fun d hd => ?_⟩;have s4 := z8 hd (.lst (cutV (nv p0) (some ((64 * i : Nat) : Int)) (some (((64 * i : Nat) : Int) + 64))))
      have k4 : (upd H' d (.lst (cutV (nv p0) (some ((64 * i : Nat) : Int)) (some (((64 * i : Nat) : Int) + 64))))) d = some (.lst (nv (slice p0 (64 * i) 64))) := by
        rw [y1, <- cut_nv (by omega)];rfl
      refine ⟨c, d, _, _, rfl, s4 _ _ k3, k4, sl8 i, slt i, ?_, ?_, fun e H5 s5 n5 k5 => ?_⟩
      · unfold slice;rw [List.length_take, List.length_drop];omega
      · intro x hx;unfold slice at hx;exact plt x (List.mem_of_mem_drop (List.mem_of_mem_take hx))
      · exact ⟨e, _, rfl, s3.trans (s4.trans s5), k5⟩
    · rintro σ H' ⟨c, v, rfl, s3, k3⟩;refine ⟨Nat.zero_le _, fun d hd => ?_⟩;have s4 : Same H' (upd H' d (.lst [])) := z8 hd _;have sB : Same H H' := sA.trans s3;have k3' := s4 _ _ k3
      refine ⟨_, rfl, c, rfl, ⟨_, SqL.of k3'⟩, for_list (K := K) (a := c) (xs := nv (My.sts p0 n)) (fun i σ H4 => ∃ v5 : Option V, σ = [some (.ref a), some (.ref p), some (.ref c), v, some (.ref d), v5] /\ Same H' H4 /\ H4 d = some (.lst (nv (((My.sts p0 n).take i).flatMap (big 4)))))
        ⟨none, rfl, s4, y1⟩ (fun i σ H4 _ ⟨_, _, z, _⟩ => SqL.of (z _ _ k3)) ?_ ?_⟩
      · rintro i x σ H4 hx ⟨v5, rfl, z, kd⟩;obtain ⟨m, hm, rfl⟩ := nv_ex hx;refine ⟨_, rfl, .inl ⟨rfl, _, SqL.of kd⟩, _, rfl, m, 4, rfl, by decide, fun e H5 s5 n5 k5 => ?_⟩;refine ⟨d, e, _, _, rfl, rfl, s5 _ _ kd, k5, ?_, ?_⟩
        · rw [j5, j5, flat_le, My.big_len, List.length_take, sl8];omega
        · refine ⟨_, rfl, Q3 (z.trans s5) hd _, ?_⟩;rw [y1, flat_snoc hm, Y3]
      · rintro σ H4 ⟨v5, rfl, z, kd⟩;refine ⟨_, rfl, ?_⟩;rw [List.take_of_length_le (by rw [j5]; exact Nat.le_refl _)] at kd;exact q d H4 (sB.trans z) (Same.free sB hd) kd
end
end T3
namespace T3
open PySem PySem.Spec PyProof.Rows L2 G
open PySem.W (Codec)
open Sv20 (turn big three word ofBig slice begun rounds)
def spHs (K : PySem.W.Frag) : Sp := fun vs H Q _ => ∃ (a d : Addr) (kb db : List Nat), vs = [.ref a, .ref d] /\ SqL K H a (nv kb) /\ SqL K H d (nv db) /\ kb.length <= 64 /\ db.length <= 180000 /\ (∀ x ∈ kb, x < 256) /\ (∀ x ∈ db, x < 256) /\ Gives H Q (Sv20.mac kb db)
theorem xor_byte {a b : Nat} (ha : a < 256) (hb : b < 256) : Nat.xor a b < 256 := Nat.xor_lt_two_pow (n := 8) ha hb
def xs (c : Nat) (l : List Nat) : List Nat := l.map fun x => Nat.xor x c
theorem xs_get {c : Nat} {l : List Nat} {i m : Nat} (h : l[i]? = some m) : (xs c l)[i]? = some (Nat.xor m c) := by
  unfold xs;rw [List.getElem?_map, h]; rfl
theorem xs_len (c : Nat) (l : List Nat) : (xs c l).length = l.length := List.length_map _
theorem xs_lt {c : Nat} {l : List Nat} (hc : c < 256) (h : ∀ x ∈ l, x < 256) : ∀ x ∈ xs c l, x < 256 := by
  intro x hx;obtain ⟨y, hy, rfl⟩ := List.mem_map.mp hx;exact xor_byte (h y hy) hc
section
variable {P : Program} {w : World} {K : PySem.W.Frag} {mg : Str -> Option Value} {base : Heap} {aF aC : Addr}
abbrev nH : List Str := ["key", "data", "block", "inner", "outer", "byte"]
theorem scHs : z7 nH ["key", "data"] (y3 sHs) := ⟨rfl, rfl, rfl, by decide +kernel, rfl, by decide +kernel, by decide +kernel⟩
theorem ok_hs {f : Addr} {fd : FuncData} (F : Fun K "hs256" "hs256" sHs f fd) (T : Txt K mg aF aC) (CS : Callee P w K mg base "sha256" 4 ["data"] spSha) : FnOk P w K mg base CX0 5 f fd ["key", "data"] (spHs K) := by
  refine F.ok scHs (fun vs H Q E h => ?_) (fun cdv A outer s H vs Q E hr h => ?_)
  · obtain ⟨a, d, kb, db, rfl, _⟩ := h;rfl
  · obtain ⟨a, d, kb, db, rfl, hA, hDa, lk, ld, bk, bd, q⟩ := h;have lz : sizeLine = 16777216 := rfl
    refine ⟨_, w4 (z6 (i := 2) scHs.nd rfl (Or.inl rfl) (y8 op_catQ (pv 0) (y8 op_rep (W6 (w6 y2 w9)) (y8 (op_val0 W7) (x8 rfl T.blk) (Z8 rfl T.len (pv 0))))))
      (w4 (ps_setLc (i := 3) (own := [("byte", 5)]) rfl scHs.nd rfl rfl (sw_true rfl rfl rfl rfl) (pi_list (pv 2)) (Y8 (by show blkC nH (y3 sHs) _ [("byte", 5)] = true; decide +kernel)) (fun s H C cl fp => k9 (i := 5) scHs.nd rfl (Or.inl rfl)) (fun s H C cl fp => pts_nil) (fun s H C cl fp => y8 n_xor (pv 5) y2))
      (w4 (ps_setLc (i := 4) (own := [("byte", 5)]) rfl scHs.nd rfl rfl (sw_true rfl rfl rfl rfl) (pi_list (pv 2)) (Y8 (by show blkC nH (y3 sHs) _ [("byte", 5)] = true; decide +kernel)) (fun s H C cl fp => k9 (i := 5) scHs.nd rfl (Or.inl rfl)) (fun s H C cl fp => pts_nil) (fun s H C cl fp => y8 n_xor (pv 5) y2))
      (w8 (y6 (j6 CS hr rfl (w6 (y8 op_catQ (pv 4) (j6 CS hr rfl (w6 (y8 op_catQ (pv 3) (pv 1)) w9))) w9)))))), ?_⟩
    refine ⟨_, rfl, (by show 1 <= sizeLine; decide), fun p1 h1 => ?_⟩;have s1 : Same H (upd H p1 (.lst (nv [0]))) := z8 h1 _;have ez : V.int ((64 : Int) - ((nv kb).length : Nat)) = V.int ((64 - kb.length : Nat) : Int) := by rw [j5]; congr 1; omega
    refine ⟨_, rfl, a, _, rfl, .inl (s1.seq hA), _, _, rfl, rfl, _, ez, p1, _, _, rfl, rfl, y1, (by omega), (by omega), ?_, fun p2 h2 => ?_⟩
    · show 1 * _ <= sizeLine;omega
    have e2 : (List.replicate (((64 - kb.length : Nat) : Int)).toNat (nv [0])).flatten = nv (List.replicate (64 - kb.length) 0) := by rw [Int.toNat_natCast, rep0]
    have s2 : Same H (upd (upd H p1 (.lst (nv [0]))) p2 (.lst (List.replicate (((64 - kb.length : Nat) : Int)).toNat (nv [0])).flatten)) := s1.trans (z8 h2 _);have k2 : (upd (upd H p1 (.lst (nv [0]))) p2 (.lst (List.replicate (((64 - kb.length : Nat) : Int)).toNat (nv [0])).flatten)) p2 = some (.lst (nv (List.replicate (64 - kb.length) 0))) := by rw [y1, e2]
    show rCatQ K (.ref a) (.ref p2) (upd (upd H p1 (.lst (nv [0]))) p2 (.lst (List.replicate (((64 - kb.length : Nat) : Int)).toNat (nv [0])).flatten)) _;generalize upd (upd H p1 (.lst (nv [0]))) p2 (.lst (List.replicate (((64 - kb.length : Nat) : Int)).toNat (nv [0])).flatten) = H2 at s2 k2;refine ⟨a, p2, _, _, rfl, rfl, s2.seq hA, SqL.of k2, ?_, fun pB hB => ?_⟩
    · rw [j5, j5, List.length_replicate];omega
    have sB := s2.trans (z8 hB (.lst (nv kb ++ nv (List.replicate (64 - kb.length) 0))));have kB : (upd H2 pB (.lst (nv kb ++ nv (List.replicate (64 - kb.length) 0)))) pB = some (.lst (nv (kb ++ List.replicate (64 - kb.length) 0))) := by rw [y1, Y3]
    have lB : (kb ++ List.replicate (64 - kb.length) 0).length = 64 := by rw [List.length_append, List.length_replicate]; omega
    have bB : ∀ x ∈ kb ++ List.replicate (64 - kb.length) 0, x < 256 := fun x hx => by
      rcases List.mem_append.mp hx with z | z
      · exact bk x z
      · rw [(List.mem_replicate.mp z).2]; decide
    have q' : Gives H Q (Sv20.sha (xs 92 (kb ++ List.replicate (64 - kb.length) 0) ++ Sv20.sha (xs 54 (kb ++ List.replicate (64 - kb.length) 0) ++ db))) := q;generalize kb ++ List.replicate (64 - kb.length) 0 = ky at kB lB bB q';generalize upd H2 pB (.lst (nv kb ++ nv (List.replicate (64 - kb.length) 0))) = HB at sB kB;refine ⟨_, rfl, pB, rfl, ⟨_, SqL.of kB⟩, fun D hD => ?_⟩;refine lc_list (K := K) (a := pB) (xs := nv ky) (fun i H' => Same HB H' /\ H' D = some (.lst (nv ((xs 54 ky).take i)))) ⟨z8 hD _, y1⟩ (fun i H' _ z => SqL.of (z.1 _ _ kB)) ?_ ?_
    · rintro i x H' hx ⟨z, kz⟩;obtain ⟨m, hm, rfl⟩ := nv_ex hx;refine ⟨rfl, yes ?_⟩;refine ⟨_, rfl, m, 54, rfl, rfl, _, kz, ?_, Q3 z hD _, ?_⟩
      · rw [j5, List.length_take, xs_len];omega
      · rw [y1, My.take_get (xs_get hm), Y3];rfl
    · rintro HI ⟨zI, kI⟩;rw [List.take_of_length_le (by rw [xs_len, j5]; exact Nat.le_refl _)] at kI;have kBI := zI _ _ kB;have sI := sB.trans zI;refine ⟨_, rfl, pB, rfl, ⟨_, SqL.of kBI⟩, fun O hO => ?_⟩;refine lc_list (K := K) (a := pB) (xs := nv ky) (fun i H' => Same HI H' /\ H' O = some (.lst (nv ((xs 92 ky).take i)))) ⟨z8 hO _, y1⟩ (fun i H' _ z => SqL.of (z.1 _ _ kBI)) ?_ ?_
      · rintro i x H' hx ⟨z, kz⟩;obtain ⟨m, hm, rfl⟩ := nv_ex hx;refine ⟨rfl, yes ?_⟩;refine ⟨_, rfl, m, 92, rfl, rfl, _, kz, ?_, Q3 z hO _, ?_⟩
        · rw [j5, List.length_take, xs_len];omega
        · rw [y1, My.take_get (xs_get hm), Y3];rfl
      · rintro HO2 ⟨zO, kO⟩;rw [List.take_of_length_le (by rw [xs_len, j5]; exact Nat.le_refl _)] at kO;have kIO := zO _ _ kI;have sO := sI.trans zO;refine ⟨_, rfl, _, rfl, _, rfl, D, d, _, _, rfl, rfl, SqL.of kIO, sO.seq hDa, ?_, fun p3 h3 => ?_⟩
        · rw [j5, j5, xs_len];omega
        have s3 := z8 h3 (.lst (nv (xs 54 ky) ++ nv db));refine ⟨p3, xs 54 ky ++ db, rfl, (by rw [y1, Y3]), ?_, ?_, fun p4 H4 s4 n4 k4 => ?_⟩
        · rw [List.length_append, xs_len];omega
        · intro x hx;rcases List.mem_append.mp hx with z | z
          · exact xs_lt (by decide) bB x z
          · exact bd x z
        have kO4 := s4 _ _ (s3 _ _ kO);refine ⟨O, p4, _, _, rfl, rfl, SqL.of kO4, SqL.of k4, ?_, fun p5 h5 => ?_⟩
        · rw [j5, j5, xs_len, My.sha_len];omega
        have s5 := z8 h5 (.lst (nv (xs 92 ky) ++ nv (Sv20.sha (xs 54 ky ++ db))));have s05 := sO.trans (s3.trans (s4.trans s5));refine ⟨p5, xs 92 ky ++ Sv20.sha (xs 54 ky ++ db), rfl, (by rw [y1, Y3]), ?_, ?_, fun p6 H6 s6 n6 k6 => ?_⟩
        · rw [List.length_append, xs_len, My.sha_len];omega
        · intro x hx;rcases List.mem_append.mp hx with z | z
          · exact xs_lt (by decide) bB x z
          · exact My.sha_lt _ x z
        exact q' p6 H6 (s05.trans s6) (Same.free s05 n6) k6
end
end T3
namespace J
open PySem PySem.Spec PyProof.Rows L2 G Ex
open Sv20 (Json isString wholeOf strings ifThere claimsOk named ascii)
theorem boot_allB : bootBuiltins "all" = some (.builtin "all") := by decide +kernel
theorem lc_str {x : Str} {g : TG} {tt : TT} {te : TE} {vs : List Nat} {σ : L2.St} {H1 : Hp} {D : Addr} {Qd : Hp -> Prop} (Pv : Nat -> Hp -> Prop) (h0 : Pv 0 (upd H1 D (.lst [])))
    (hs : ∀ i c H, x.cps[i]? = some c -> Pv i H -> g (.str ⟨#[c]⟩) (wipe σ vs) H fun σ2 H2 => wipe σ2 vs = wipe σ vs /\ tt σ2 H2 fun b H3 =>
      if b = true then te σ2 H3 fun y H4 => ∃ acc, H4 D = some (.lst acc) /\ acc.length < sizeLine /\ Pv (i + 1) (upd H4 D (.lst (acc ++ [y]))) else Pv (i + 1) H3) (hd : ∀ H, Pv x.cps.size H -> Qd H) :
    ∃ W : Nat -> Nat -> Hp -> Prop, (∃ m, W 0 m (upd H1 D (.lst []))) /\ ∀ i m H, W i m H ->
      ((Its x).stop i H /\ Qd H) \/ ((Its x).go i H /\ ∃ Nx : Hp -> Prop, (∀ H', Nx H' -> ∃ m', m' < m /\ W (i + 1) m' H') /\ ∀ x' H', (Its x).yld i H x' H' -> g x' (wipe σ vs) H' fun σ2 H2 => wipe σ2 vs = wipe σ vs /\ tt σ2 H2 fun b H3 =>
        if b = true then te σ2 H3 fun y H4 => ∃ acc, H4 D = some (.lst acc) /\ acc.length < sizeLine /\ Nx (upd H4 D (.lst (acc ++ [y]))) else Nx H3) := by
  refine ⟨fun i m H => m = x.cps.size - i /\ i <= x.cps.size /\ Pv i H, ⟨x.cps.size, by simp, Nat.zero_le _, h0⟩, ?_⟩;rintro i m H ⟨rfl, hi, p⟩;by_cases hlt : i < x.cps.size
  · refine .inr ⟨hlt, Pv (i + 1), fun H' p' => ⟨x.cps.size - (i + 1), by omega, rfl, hlt, p'⟩, fun x' H' y => ?_⟩;obtain ⟨e, c, hc, e2⟩ := y;subst e e2;exact hs i c _ hc p
  · have e : i = x.cps.size := by omega
    subst e;exact .inl ⟨Nat.le_refl _, hd H p⟩
structure Txt9 (mg : Str -> Option Value) : Prop where
  md : ∃ t, mg "MOST_DIGITS" = some (.int 16 t)
  nb : ∃ t, mg "NUMBERS_BELOW" = some (.int 9007199254740992 t)
  all : mg "all" = none
section
variable {CV : Addr} {t : List Nat} {F : Addr -> Prop} {H : Hp} {k : Str} {i : V} {x : Json}
theorem sne {a b : Str} (h : a ≠ b) : decide (V.str a = V.str b) = false := decide_eq_false fun z => h (V.str.inj z)
theorem seq {a : Str} : decide (V.str a = V.str a) = true := decide_eq_true rfl
theorem Inn.isStr (h : Inn CV t F H k i x) : decide (V.str k = V.str "string") = (isString x).isSome := by
  cases h with
  | str => rw [seq]; rfl
  | num => rw [sne (by decide +kernel)]; rfl
  | word hw => rcases hw with rfl | rfl | rfl <;> (rw [sne (by decide +kernel)]; rfl)
  | arr => rw [sne (by decide +kernel)]; rfl
  | obj => rw [sne (by decide +kernel)]; rfl
theorem VAs.get {CV : Addr} {t : List Nat} {F : Addr -> Prop} {H : Hp} : ∀ {vs : List V} {xs : List Json} {i : Nat} {v : V}, VAs CV t F H vs xs -> vs[i]? = some v -> ∃ x b e, xs[i]? = some x /\ VA CV t F H v x b e
  | [], _, i, _, h, e => by cases e
  | v :: vs, _, 0, _, h, e => by
    cases h with
    | cons a b => cases e; exact ⟨_, _, _, rfl, a⟩
  | v :: vs, _, i + 1, _, h, e => by
    cases h with
    | cons a b => exact VAs.get (i := i) b e
theorem VAs.len {CV : Addr} {t : List Nat} {F : Addr -> Prop} {H : Hp} : ∀ {vs : List V} {xs : List Json}, VAs CV t F H vs xs -> vs.length = xs.length
  | [], _, h => by cases h; rfl
  | v :: vs, _, h => by
    cases h with
    | cons a b => rw [List.length_cons, List.length_cons, VAs.len b]
end
theorem VA.same {CV : Addr} {t : List Nat} {F : Addr -> Prop} {H H' : Hp} {v : V} {x : Json} {b e : Nat} (h : VA CV t F H v x b e) (s : Same H H') : VA CV t F H' v x b e := h.mono (fun _ f => f) fun a o _ q => s a o q
theorem VMs.same {CV : Addr} {t : List Nat} {F : Addr -> Prop} {H H' : Hp} {kvs : List (List Key × V)} {ms : List Mem} (h : VMs CV t F H kvs ms) (s : Same H H') : VMs CV t F H' kvs ms := h.mono (fun _ f => f) fun a o _ q => s a o q
theorem VAs.same {CV : Addr} {t : List Nat} {F : Addr -> Prop} {H H' : Hp} {vs : List V} {xs : List Json} (h : VAs CV t F H vs xs) (s : Same H H') : VAs CV t F H' vs xs := h.mono (fun _ f => f) fun a o _ q => s a o q
section
variable (K : PySem.W.Frag) (CV : Addr)
def spAscii : Sp := fun vs H Q _ => ∃ x : Str, vs = [.str x] /\ x.cps.size <= 1000 /\ Gives H Q x.cps.toList
def Y1 : Sp := fun vs H Q _ => ∃ (d : Addr) (x : Str) (kvs : List (List Key × V)) (t : List Nat) (F : Addr -> Prop) (ms : List Mem), vs = [.ref d, .str x] /\ H d = some (.dT kvs) /\ VMs CV t F H kvs ms /\ x.cps.size <= 1000 /\
  (named ms x.cps.toList = none -> ∀ H', Same H H' -> Q .non H') /\ (∀ y, named ms x.cps.toList = some y -> ∀ v b e H', Same H H' -> VA CV t F H' v y.2 b e -> Q v H')
def spIsStr : Sp := fun vs H Q _ => ∃ (v : V) (t : List Nat) (F : Addr -> Prop) (x : Json) (b e : Nat), vs = [v] /\ VA CV t F H v x b e /\ Q (.bl (isString x).isSome) H
def spWhole : Sp := fun vs H Q _ => ∃ (a : Addr) (ds : List Nat), vs = [.ref a] /\ SqL K H a (nv ds) /\ ds.all Sv20.digit = true /\ Q (.int ((ME.dval ds : Nat) : Int)) H
def spIsTime : Sp := fun vs H Q _ => ∃ (v : V) (t : List Nat) (F : Addr -> Prop) (x : Json) (b e : Nat), vs = [v] /\ VA CV t F H v x b e /\ ∀ H', Same H H' -> Q (.bl (wholeOf x).isSome) H'
def spIsStrs : Sp := fun vs H Q _ => ∃ (v : V) (t : List Nat) (F : Addr -> Prop) (x : Json) (b e : Nat), vs = [v] /\ VA CV t F H v x b e /\ t.length <= 100000 /\ ∀ H', Same H H' -> Q (.bl (strings x).isSome) H'
end
section
variable {P : Program} {w : World} {K : PySem.W.Frag} {mg : Str -> Option Value} {base : Heap} {CR CN CV aB aK : Addr}
theorem scAs : z7 ["text", "sign"] ["text"] (y3 (top 27)) := ⟨rfl, rfl, rfl, by decide +kernel, rfl, by decide +kernel, by decide +kernel⟩
theorem ok_ascii {f : Addr} {fd : FuncData} (F : Fun K "ascii_of" "ascii_of" (top 27) f fd) (hord : mg "ord" = none) : FnOk P w K mg base CX0 1 f fd ["text"] spAscii := by
  refine F.ok scAs (fun vs H Q E h => ?_) (fun cdv A outer s H vs Q E hr h => ?_)
  · obtain ⟨x, rfl, _⟩ := h;rfl
  · obtain ⟨x, rfl, hx, q⟩ := h;have lz : sizeLine = 16777216 := rfl
    refine ⟨_, w8 (y6 (pe_lc (own := [("sign", 1)]) rfl scAs.nd (pi_str (pv 0)) (Y8 (by show blkC ["text", "sign"] (y3 (top 27)) _ [("sign", 1)] = true; decide +kernel))
      (fun s H C cl fp => k9 (i := 1) scAs.nd rfl (Or.inl rfl)) (fun s H C cl fp => pts_nil) (fun s H C cl fp => pe_callB call_ord rfl hord PyProof.Rows.boot_ord (w6 (pv 1) w9)))), ?_⟩
    refine ⟨_, rfl, x, rfl, fun D hD => ?_⟩;refine lc_str (x := x) (fun i H' => Same H H' /\ H' D = some (.lst (nv (x.cps.toList.take i)))) ⟨z8 hD _, y1⟩ ?_ ?_
    · rintro i c H' hc ⟨s1, k1⟩;have hl : x.cps.toList[i]? = some c := by rw [Array.getElem?_toList]; exact hc
      refine ⟨rfl, yes ?_⟩;refine ⟨_, rfl, ⟨#[c]⟩, rfl, rfl, _, k1, ?_, Q3 s1 hD _, ?_⟩
      · rw [j5, List.length_take];have : x.cps.toList.length = x.cps.size := by simp
        omega
      · rw [y1, List.take_add_one, hl];show _ = some (HO.lst (nv (x.cps.toList.take i ++ [c])));rw [Y3];rfl
    · rintro H' ⟨s1, k1⟩;rw [List.take_of_length_le (by simp)] at k1;exact q D H' s1 hD k1
theorem scMb : z7 ["members", "name"] ["members", "name"] (y3 (top 28)) := ⟨rfl, rfl, rfl, by decide +kernel, rfl, by decide +kernel, by decide +kernel⟩
theorem ok_mb {f : Addr} {fd : FuncData} (F : Fun K "member" "member" (top 28) f fd) (T : Txt K mg CR CN aB) (CA : Callee P w K mg base CX0 "ascii_of" 1 ["text"] spAscii) : FnOk P w K mg base CX0 2 f fd ["members", "name"] (Y1 CV) := by
  refine F.ok scMb (fun vs H Q E h => ?_) (fun cdv A outer s H vs Q E hr h => ?_)
  · obtain ⟨d, x, kvs, t, F, ms, rfl, _⟩ := h;rfl
  · obtain ⟨d, x, kvs, t, F, ms, rfl, hd, hm, hx, q1, q2⟩ := h;have hu := hu_of hr;refine ⟨_, w8 (y6 (pe_dget1 hu (pv 0) (pe_callTy call_tuple_of rfl T.tup PyProof.Rows.boot_tuple (w6 (j6 CA j0 hr rfl (w6 (pv 1) w9)) w9)) ⟨rfl, rfl, rfl, rfl⟩)), ?_⟩;refine ⟨_, rfl, d, rfl, .inr ⟨_, .inl hd⟩, _, rfl, x, rfl, hx, fun l H1 s1 hl kl => ?_⟩;refine ⟨l, _, rfl, .inl ⟨SqL.of kl, fun tp htp => ?_⟩⟩;have s2 : Same H (upd H1 tp (.tup (nv x.cps.toList))) := s1.trans (z8 htp _);have kt : (upd H1 tp (.tup (nv x.cps.toList))) tp = some (.tup ((kOf x.cps.toList).map kV)) := by rw [y1, kOf_kV]
    generalize upd H1 tp (.tup (nv x.cps.toList)) = H2 at s2 kt;refine ⟨_, DGet.t (k := kOf x.cps.toList) (s2 _ _ hd) kt, ?_⟩;have lk := hm.look x.cps.toList;cases hn : ms.lookup x.cps.toList with
    | none =>
      rw [hn] at lk;have lk : valV kvs (kOf x.cps.toList) = none := lk;rw [lk];exact q1 hn H2 s2
    | some y =>
      rw [hn] at lk;obtain ⟨v, bg, en, lv, hva, _⟩ := lk;rw [lv];exact q2 y hn v bg en H2 s2 (hva.same s2)
theorem scIs : z7 ["value"] ["value"] (y3 (top 29)) := ⟨rfl, rfl, rfl, by decide +kernel, rfl, by decide +kernel, by decide +kernel⟩
theorem ok_isstr {f : Addr} {fd : FuncData} (F : Fun K "is_string" "is_string" (top 29) f fd) (T6 : Txt6 K mg CV aK) : FnOk P w K mg base CX0 1 f fd ["value"] (spIsStr CV) := by
  refine F.ok scIs (fun vs H Q E h => ?_) (fun cdv A outer s H vs Q E hr h => ?_)
  · obtain ⟨v, t, F, x, b, e, rfl, _⟩ := h;rfl
  · obtain ⟨v, t, F, x, b, e, rfl, hva, q⟩ := h;refine ⟨_, w8 (y6 (pe_cmpR op_eq (k7 (pv 0) rfl) (pe_gs rfl T6.gs) (j9 _))), ?_⟩;cases hva with
    | @mk p dx k i x b e fp hp hi =>
      refine ⟨_, rfl, p, CV, dx, _, _, rfl, hp, T6.cl, T6.nK, rfl, rfl, ?_⟩;rw [<- hi.isStr] at q;exact q
theorem scWn : z7 ["digits", "number", "byte"] ["digits"] (y3 (top 34)) := ⟨rfl, rfl, rfl, by decide +kernel, rfl, by decide +kernel, by decide +kernel⟩
theorem ok_whole {f : Addr} {fd : FuncData} (F : Fun K "whole_number" "whole_number" (top 34) f fd) (hord : mg "ord" = none) : FnOk P w K mg base CX0 1 f fd ["digits"] (spWhole K) := by
  refine F.ok scWn (fun vs H Q E h => ?_) (fun cdv A outer s H vs Q E hr h => ?_)
  · obtain ⟨a, ds, rfl, _⟩ := h;rfl
  · obtain ⟨a, ds, rfl, hS, hd, q⟩ := h
    refine ⟨_, w4 (z6 (i := 1) scWn.nd rfl (Or.inl rfl) y2)
      (w4 (ps_for PassesOwn.never rfl (pi_list (pv 0)) (k9 (i := 2) scWn.nd rfl (Or.inl rfl)) (w8 (z6 (i := 1) scWn.nd rfl (Or.inl rfl) (y8 (op_val0 W7) (y8 Z2 (y8 op_mul (pv 1) y2) (pv 2)) (v7 (i := 48) rfl hord rfl rfl)))))
      (w8 (y6 (pv 1)))), ?_⟩
    refine ⟨_, rfl, a, rfl, ⟨_, hS⟩, for_list (K := K) (a := a) (xs := nv ds) (fun i σ H' => ∃ v2 : Option V, σ = [some (.ref a), some (.int ((ME.dval (ds.take i) : Nat) : Int)), v2] /\ H' = H) ⟨none, rfl, rfl⟩ (fun i σ H' _ ⟨_, _, e⟩ => by rw [e]; exact hS) ?_ ?_⟩
    · rintro i x σ H' hx ⟨v2, rfl, rfl⟩;obtain ⟨m, hm, rfl⟩ := nv_ex hx;have hdg := List.all_eq_true.mp hd m (List.mem_of_getElem? hm);unfold Sv20.digit at hdg;rw [Bool.and_eq_true, decide_eq_true_eq, decide_eq_true_eq] at hdg;refine ⟨_, rfl, _, _, rfl, rfl, .inr ⟨by decide, by decide⟩, _, rfl, _, _, rfl, rfl, _, _, rfl, rfl, _, ?_, ⟨_, rfl, rfl⟩⟩;rw [List.take_add_one, hm];show V.int _ = V.int ((ME.dval (ds.take i ++ [m]) : Nat) : Int);rw [ME.dval_snoc]
      congr 1
      omega
    · rintro σ H' ⟨v2, rfl, rfl⟩;refine ⟨_, rfl, ?_⟩;rw [j5, List.take_length];exact q
theorem scTm : z7 ["value", "byte"] ["value"] (y3 (top 35)) := ⟨rfl, rfl, rfl, by decide +kernel, rfl, by decide +kernel, by decide +kernel⟩
theorem isd_nat (m : Nat) : decide (48 <= (m : Int) /\ (m : Int) <= 57) = Sv20.digit m := by
  unfold Sv20.digit;rw [Bool.eq_iff_iff];simp;omega
theorem ok_istime {f : Addr} {fd : FuncData} (F : Fun K "is_time" "is_time" (top 35) f fd) (T : Txt K mg CR CN aB) (T6 : Txt6 K mg CV aK) (T9 : Txt9 mg) (CD : Callee P w K mg base CX0 "is_digit" 1 ["byte"] spIsDigit) (CW : Callee P w K mg base CX0 "whole_number" 1 ["digits"] (spWhole K)) : FnOk P w K mg base CX0 2 f fd ["value"] (spIsTime CV) := by
  refine F.ok scTm (fun vs H Q E h => ?_) (fun cdv A outer s H vs Q E hr h => ?_)
  · obtain ⟨v, t, F, x, b, e, rfl, _⟩ := h;rfl
  · obtain ⟨v, t, F, x, b, e, rfl, hva, q⟩ := h;have lz : sizeLine = 16777216 := rfl
    refine ⟨_, w4 (j7 (PW.pt (pw_or (j8 op_ne (k7 (pv 0) rfl) (pe_gs rfl T6.gn) (j9 _)) (pw_or1 (j8 op_gt (Z8 rfl T.len (k7 (pv 0) rfl)) (x8 rfl T9.md) (j9 _))))) (w8 (y6 pe_bl)) z0)
      (w8 (y6 (pe_and (pe_callB (cr_all rfl) rfl T9.all boot_allB (w6 (pe_lc (own := [("byte", 1)]) rfl scTm.nd (pi_list (k7 (pv 0) rfl)) (Y8 (by show blkC ["value", "byte"] (y3 (top 35)) _ [("byte", 1)] = true; decide +kernel))
        (fun s H C cl fp => k9 (i := 1) scTm.nd rfl (Or.inl rfl)) (fun s H C cl fp => pts_nil) (fun s H C cl fp => j6 CD j0 hr rfl (w6 (pv 1) w9))) w9))
        (pe_one (pe_cmpR op_lt (j6 CW j0 hr rfl (w6 (k7 (pv 0) rfl) w9)) (x8 rfl T9.nb) (j9 _)))))), ?_⟩
    cases hva with
    | @mk p dx k i x b e fp hp hi =>
      refine ⟨_, rfl, p, CV, dx, _, _, rfl, hp, T6.cl, T6.nK, rfl, rfl, _, rfl, ?_⟩;refine ifSn (fun n => ?_) (fun n => ?_)
      · refine iteT ?_
        have e0 : (wholeOf x).isSome = false := by
          cases hi with
          | num => exact absurd rfl n
          | str => rfl
          | word => rfl
          | arr => rfl
          | obj => rfl
        have := q H (Same.refl _);rw [e0] at this;exact this
      · cases hi with
        | str => exact absurd n (by decide +kernel)
        | word hw => subst n; rcases hw with z | z | z <;> exact absurd z (by decide +kernel)
        | arr => exact absurd n (by decide +kernel)
        | obj => exact absurd n (by decide +kernel)
        | @num l bs fl kl hlen hnum =>
          rw [ME.whole_is] at q;refine ⟨_, rfl, p, CV, dx, _, _, rfl, hp, T6.cl, T6.nI, rfl, l, _, rfl, .inl (SqL.of kl), _, _, rfl, rfl, _, rfl, ?_⟩;refine ite2 (fun e1 => ?_) (fun e1 => ?_)
          · have e1' : (16 : Int) < ((nv bs).length : Nat) := of_decide_eq_true e1;rw [j5] at e1';have := q H (Same.refl _)
            have e2 : (bs.all Sv20.digit && decide (ME.dval bs < 2 ^ 53)) = false := by
              cases ha : bs.all Sv20.digit with
              | false => rfl
              | true => rw [decide_eq_false (ME.dval_big ha (hnum ha) (by omega))]; rfl
            rw [e2] at this;exact this
          · refine ⟨_, rfl, p, CV, dx, _, _, rfl, hp, T6.cl, T6.nI, rfl, l, rfl, ⟨_, SqL.of kl⟩, fun D hD => ?_⟩;refine lc_list (K := K) (a := l) (xs := nv bs) (fun j H' => Same H H' /\ H' D = some (.lst (((bs.take j).map Sv20.digit).map V.bl))) ⟨z8 hD _, y1⟩ (fun j H' _ z => SqL.of (z.1 _ _ kl)) ?_ ?_
            · rintro j x H' hx' ⟨z, kz⟩;obtain ⟨m, hm, rfl⟩ := nv_ex hx';have hj := (List.getElem?_eq_some_iff.mp hm).1;refine ⟨rfl, yes ?_⟩;refine ⟨_, rfl, (m : Int), rfl, _, kz, ?_, Q3 z hD _, ?_⟩
              · rw [List.length_map, List.length_map, List.length_take];omega
              · rw [y1, List.take_add_one, hm, isd_nat, List.map_append, List.map_append];rfl
            · rintro H1 ⟨z, kz⟩;rw [j5, List.take_length] at kz;refine ⟨D, _, rfl, SqL.of kz, _, rfl, ?_⟩;have ea : (bs.map Sv20.digit).all id = bs.all Sv20.digit := by rw [List.all_map]; rfl
              rw [ea];refine ite2b (fun e2 => ?_) (fun e2 => ?_)
              · have hp1 := z _ _ hp;refine ⟨_, rfl, p, CV, dx, _, _, rfl, hp1, T6.cl, T6.nI, rfl, l, bs, rfl, SqL.of (z _ _ kl), e2, _, _, rfl, rfl, ?_⟩;have := q H1 z;rw [e2, Bool.true_and] at this
                have e3 : decide (((ME.dval bs : Nat) : Int) < 9007199254740992) = decide (ME.dval bs < 2 ^ 53) := by
                  rw [Bool.eq_iff_iff, decide_eq_true_eq, decide_eq_true_eq];omega
                rw [<- e3] at this;exact this
              · have := q H1 z;rw [e2] at this;exact this
theorem scSs : z7 ["value", "part"] ["value"] (y3 (top 36)) := ⟨rfl, rfl, rfl, by decide +kernel, rfl, by decide +kernel, by decide +kernel⟩
theorem ok_isstrs {f : Addr} {fd : FuncData} (F : Fun K "is_strings" "is_strings" (top 36) f fd) (T6 : Txt6 K mg CV aK) (T9 : Txt9 mg) (CI : Callee P w K mg base CX0 "is_string" 1 ["value"] (spIsStr CV)) : FnOk P w K mg base CX0 2 f fd ["value"] (spIsStrs CV) := by
  refine F.ok scSs (fun vs H Q E h => ?_) (fun cdv A outer s H vs Q E hr h => ?_)
  · obtain ⟨v, t, F, x, b, e, rfl, _⟩ := h;rfl
  · obtain ⟨v, t, F, x, b, e, rfl, hva, ht, q⟩ := h;have lz : sizeLine = 16777216 := rfl
    refine ⟨_, w4 (j7 (j8 op_eq (k7 (pv 0) rfl) (pe_gs rfl T6.ga) (j9 _)) (w8 (y6 (pe_callB (cr_all rfl) rfl T9.all boot_allB (w6 (pe_lc (own := [("part", 1)]) rfl scSs.nd (pi_list (k7 (pv 0) rfl)) (Y8 (by show blkC ["value", "part"] (y3 (top 36)) _ [("part", 1)] = true; decide +kernel))
        (fun s H C cl fp => k9 (i := 1) scSs.nd rfl (Or.inl rfl)) (fun s H C cl fp => pts_nil) (fun s H C cl fp => j6 CI j0 hr rfl (w6 (pv 1) w9))) w9)))) z0)
      (w8 (y6 (j6 CI j0 hr rfl (w6 (pv 0) w9)))), ?_⟩
    have whole := hva;cases hva with
    | @mk p dx k i x b e fp hp hi =>
      refine ⟨_, rfl, p, CV, dx, _, _, rfl, hp, T6.cl, T6.nK, rfl, rfl, _, rfl, ?_⟩;refine ifS (fun n => ?_) (fun n => ?_)
      · cases hi with
        | str => exact absurd n (by decide +kernel)
        | num => exact absurd n (by decide +kernel)
        | word hw => subst n; rcases hw with z | z | z <;> exact absurd z (by decide +kernel)
        | obj => exact absurd n (by decide +kernel)
        | @arr l vs xs fl kl hlv hv =>
          have hxl := hv.len;rw [ME.strings_arr] at q;refine ⟨_, rfl, p, CV, dx, _, _, rfl, hp, T6.cl, T6.nI, rfl, l, rfl, ⟨_, SqL.of kl⟩, fun D hD => ?_⟩;refine lc_list (K := K) (a := l) (xs := vs) (fun j H' => Same H H' /\ H' D = some (.lst (((xs.take j).map fun x => (isString x).isSome).map V.bl))) ⟨z8 hD _, y1⟩ (fun j H' _ z => SqL.of (z.1 _ _ kl)) ?_ ?_
          · rintro j v H' hx' ⟨z, kz⟩;obtain ⟨y, b', e', hy, hvy⟩ := hv.get hx';have hj := (List.getElem?_eq_some_iff.mp hy).1;refine ⟨rfl, yes ?_⟩;refine ⟨_, rfl, v, t, F, y, b', e', rfl, hvy.same z, _, kz, ?_, Q3 z hD _, ?_⟩
            · rw [List.length_map, List.length_map, List.length_take];omega
            · rw [y1, List.take_add_one, hy, List.map_append, List.map_append];rfl
          · rintro H1 ⟨z, kz⟩;rw [hv.len, List.take_length] at kz;refine ⟨D, _, rfl, SqL.of kz, ?_⟩;have ea : (xs.map fun x => (isString x).isSome).all id = xs.all fun x => (isString x).isSome := by rw [List.all_map]; rfl
            rw [ea];exact q H1 z
      · refine ⟨_, rfl, _, t, F, x, b, e, rfl, whole, ?_⟩
        have es : (strings x).isSome = (isString x).isSome := by
          cases hi with
          | arr => exact absurd rfl n
          | str => rfl
          | num => rfl
          | word => rfl
          | obj => rfl
        have := q H (Same.refl _);rw [es] at this;exact this
end
end J
namespace J
open PySem PySem.Spec PyProof.Rows L2 G Ex
open Sv20 (Json isString wholeOf strings ifThere claimsOk named ascii)
def spRightC (CV : Addr) : Sp := fun vs H Q _ => ∃ (d : Addr) (kvs : List (List Key × V)) (t : List Nat) (F : Addr -> Prop) (ms : List Mem), vs = [.ref d] /\ H d = some (.dT kvs) /\ VMs CV t F H kvs ms /\ t.length <= 100000 /\ ∀ H', Same H H' -> Q (.bl (claimsOk ms)) H'
def spRightClaims (K : PySem.W.Frag) (CV : Addr) : Sp := fun vs H Q _ => ∃ (a : Addr) (t : List Nat), vs = [.ref a] /\ SqL K H a (nv t) /\ t.length <= 100000 /\ (∀ x ∈ t, x < 256) /\ (Sv20.object t = none -> ∀ H', Q .non H') /\
  (∀ ms, Sv20.object t = some ms -> (claimsOk ms = false -> ∀ H', Q .non H') /\ (claimsOk ms = true -> ∀ d kvs H', Same H H' -> H' d = some (.dT kvs) -> VMs CV t (Fr H) H' kvs ms -> Q (.ref d) H'))
theorem there_no {ms : List Mem} {n : String} {p : Json -> Bool} (h : named ms (ascii n) = none) : ifThere ms n p = true := by unfold ifThere; rw [h]
theorem Z5 {ms : List Mem} {n : String} {p : Json -> Bool} {y : List Nat × Json} (h : named ms (ascii n) = some y) : ifThere ms n p = p y.2 := by unfold ifThere; rw [h]
theorem all_bad {l : List String} {p : String -> Bool} {i : Nat} {n : String} (h : l[i]? = some n) (e : p n = false) : l.all p = false := by
  rw [List.all_eq_false];exact ⟨n, List.mem_of_getElem? h, by rw [e]; decide⟩
theorem all_take {l : List String} {p : String -> Bool} {i : Nat} {n : String} (h : l[i]? = some n) (e : p n = true) (a : (l.take i).all p = true) : (l.take (i + 1)).all p = true := by
  rw [List.take_add_one, h, List.all_append, a];show (true && (p n && true)) = true;rw [e]; rfl
theorem names_t : ∀ (i : Nat) (x : V), [V.str "exp", V.str "nbf", V.str "iat"][i]? = some x -> ∃ (s : Str) (n : String), x = .str s /\ ["exp", "nbf", "iat"][i]? = some n /\ s.cps.toList = ascii n /\ s.cps.size <= 1000
  | 0, _, h => by cases h; exact ⟨_, _, rfl, rfl, by decide +kernel, by decide +kernel⟩
  | 1, _, h => by cases h; exact ⟨_, _, rfl, rfl, by decide +kernel, by decide +kernel⟩
  | 2, _, h => by cases h; exact ⟨_, _, rfl, rfl, by decide +kernel, by decide +kernel⟩
  | i + 3, _, h => by cases h
theorem names_s : ∀ (i : Nat) (x : V), [V.str "iss", V.str "sub", V.str "jti"][i]? = some x -> ∃ (s : Str) (n : String), x = .str s /\ ["iss", "sub", "jti"][i]? = some n /\ s.cps.toList = ascii n /\ s.cps.size <= 1000
  | 0, _, h => by cases h; exact ⟨_, _, rfl, rfl, by decide +kernel, by decide +kernel⟩
  | 1, _, h => by cases h; exact ⟨_, _, rfl, rfl, by decide +kernel, by decide +kernel⟩
  | 2, _, h => by cases h; exact ⟨_, _, rfl, rfl, by decide +kernel, by decide +kernel⟩
  | i + 3, _, h => by cases h
theorem cl1 {ms : List Mem} (h : (["exp", "nbf", "iat"].all fun n => ifThere ms n fun x => (wholeOf x).isSome) = false) : claimsOk ms = false := by unfold claimsOk; rw [h]; rfl
theorem cl2 {ms : List Mem} (h : (["iss", "sub", "jti"].all fun n => ifThere ms n fun x => (isString x).isSome) = false) : claimsOk ms = false := by
  unfold claimsOk;rw [h];cases (["exp", "nbf", "iat"].all fun n => ifThere ms n fun x => (wholeOf x).isSome) <;> rfl
theorem cl3 {ms : List Mem} (h1 : (["exp", "nbf", "iat"].all fun n => ifThere ms n fun x => (wholeOf x).isSome) = true) (h2 : (["iss", "sub", "jti"].all fun n => ifThere ms n fun x => (isString x).isSome) = true) : claimsOk ms = ifThere ms "aud" fun x => (strings x).isSome := by
  unfold claimsOk;rw [h1, h2];rfl
section
variable {P : Program} {w : World} {K : PySem.W.Frag} {mg : Str -> Option Value} {base : Heap} {CR CN CV aB aK : Addr}
theorem Y9 {CV : Addr} {t : List Nat} {F : Addr -> Prop} {H : Hp} {v : V} {x : Json} {b e : Nat} (h : VA CV t F H v x b e) : decide (v = V.non) = false := by
  cases h;exact decide_eq_false fun z => by cases z
theorem scRc : z7 ["members", "name", "value", "aud"] ["members"] (y3 (top 37)) := ⟨rfl, rfl, rfl, by decide +kernel, rfl, by decide +kernel, by decide +kernel⟩
theorem ok_rightc {f : Addr} {fd : FuncData} (F : Fun K "is_right" "is_right" (top 37) f fd) (CM : Callee P w K mg base CX0 "member" 2 ["members", "name"] (Y1 CV)) (CTm : Callee P w K mg base CX0 "is_time" 2 ["value"] (spIsTime CV)) (CI : Callee P w K mg base CX0 "is_string" 1 ["value"] (spIsStr CV)) (CSs : Callee P w K mg base CX0 "is_strings" 2 ["value"] (spIsStrs CV)) : FnOk P w K mg base CX0 3 f fd ["members"] (spRightC CV) := by
  refine F.ok scRc (fun vs H Q E h => ?_) (fun cdv A outer s H vs Q E hr h => ?_)
  · obtain ⟨d, kvs, t, F, ms, rfl, _⟩ := h;rfl
  · obtain ⟨d, kvs, t, F, ms, rfl, hd, hm, hl, q⟩ := h;have hr1 : Room 1 _ := hr.mono (by decide)
    refine ⟨_, w4 (ps_for PassesOwn.never rfl (pi_tup (pe_tup (w6 W5 (w6 W5 (w6 W5 w9))))) (k9 (i := 1) scRc.nd rfl (Or.inl rfl))
        (w4 (z6 (i := 2) scRc.nd rfl (Or.inl rfl) (j6 CM j0 hr rfl (w6 (pv 0) (w6 (pv 1) w9))))
        (w8 (j7 (PW.pt (pw_and (W2 (pc_notN (pv 2))) (pw_and1 (Q9 (x5 (j6 CTm j0 hr rfl (w6 (pv 2) w9))))))) (w8 (y6 pe_bl)) z0))))
      (w4 (ps_for PassesOwn.never rfl (pi_tup (pe_tup (w6 W5 (w6 W5 (w6 W5 w9))))) (k9 (i := 1) scRc.nd rfl (Or.inl rfl))
        (w4 (z6 (i := 2) scRc.nd rfl (Or.inl rfl) (j6 CM j0 hr rfl (w6 (pv 0) (w6 (pv 1) w9))))
        (w8 (j7 (PW.pt (pw_and (W2 (pc_notN (pv 2))) (pw_and1 (Q9 (x5 (j6 CI j0 hr1 rfl (w6 (pv 2) w9))))))) (w8 (y6 pe_bl)) z0))))
      (w4 (z6 (i := 3) scRc.nd rfl (Or.inl rfl) (j6 CM j0 hr rfl (w6 (pv 0) (w6 W5 w9))))
      (w8 (y6 (pe_or (pe_cmp (Z1 (pv 3))) (pe_one (j6 CSs j0 hr rfl (w6 (pv 3) w9)))))))), ?_⟩
    refine ⟨(by show 3 <= sizeLine; decide), fun tp htp => ?_⟩;have sT : Same H (upd H tp (.tup [.str "exp", .str "nbf", .str "iat"])) := z8 htp _;have kT : (upd H tp (.tup [.str "exp", .str "nbf", .str "iat"])) tp = some (.tup [.str "exp", .str "nbf", .str "iat"]) := y1;show ∃ a, _;refine ⟨tp, rfl, ⟨_, SqT.of kT⟩, ?_⟩;generalize upd H tp (.tup [.str "exp", .str "nbf", .str "iat"]) = HT at sT kT;have no : ∀ H', Same H H' -> claimsOk ms = false -> Q (.bl false) H' := fun H' s e => by rw [<- e]; exact q H' s
    refine for_tup (K := K) (a := tp) (xs := [.str "exp", .str "nbf", .str "iat"]) (fun i σ H' => ∃ v1 v2 : Option V, σ = [some (.ref d), v1, v2, none] /\ Same HT H' /\ ((["exp", "nbf", "iat"].take i).all fun n => ifThere ms n fun x => (wholeOf x).isSome) = true)
      ⟨none, none, rfl, Same.refl _, rfl⟩ (fun i σ H' _ ⟨_, _, _, s1, _⟩ => SqT.of (s1 _ _ kT)) ?_ ?_
    · rintro i x σ H1 hx ⟨v1, v2, rfl, s1, ha⟩;obtain ⟨sn, n, rfl, hn, en, hs⟩ := names_t i x hx;have s01 := sT.trans s1;refine ⟨_, rfl, _, rfl, d, sn, kvs, t, F, ms, rfl, s01 _ _ hd, hm.same s01, hs, fun h0 H2 s2 => ?_, fun y h0 v b e H2 s2 hva => ?_⟩
      · rw [en] at h0;refine ⟨_, rfl, _, rfl, iteF (iteF ?_)⟩;exact ⟨_, _, rfl, s1.trans s2, all_take hn (there_no h0) ha⟩
      · rw [en] at h0;refine ⟨_, rfl, _, rfl, ?_⟩;rw [Y9 hva];refine iteT ?_;refine ⟨_, rfl, v, t, F, y.2, b, e, rfl, hva, fun H3 s3 => ?_⟩;refine ⟨_, rfl, ?_⟩;have ei : ifThere ms n (fun x => (wholeOf x).isSome) = (wholeOf y.2).isSome := Z5 h0;cases hw : (wholeOf y.2).isSome with
        | true =>
          refine iteF ?_;exact ⟨_, _, rfl, (s1.trans s2).trans s3, all_take hn (ei.trans hw) ha⟩
        | false =>
          refine iteT ?_;exact no H3 ((s01.trans s2).trans s3) (cl1 (all_bad hn (ei.trans hw)))
    · rintro σ H1 ⟨v1, v2, rfl, s1, ha⟩;have h1 : (["exp", "nbf", "iat"].all fun n => ifThere ms n fun x => (wholeOf x).isSome) = true := ha;have s01 := sT.trans s1;refine ⟨(by show 3 <= sizeLine; decide), fun tq htq => ?_⟩;have sU : Same H (upd H1 tq (.tup [.str "iss", .str "sub", .str "jti"])) := s01.trans (z8 htq _);have kU : (upd H1 tq (.tup [.str "iss", .str "sub", .str "jti"])) tq = some (.tup [.str "iss", .str "sub", .str "jti"]) := y1;show ∃ a, _;refine ⟨tq, rfl, ⟨_, SqT.of kU⟩, ?_⟩;generalize upd H1 tq (.tup [.str "iss", .str "sub", .str "jti"]) = HU at sU kU
      refine for_tup (K := K) (a := tq) (xs := [.str "iss", .str "sub", .str "jti"]) (fun i σ H' => ∃ v1 v2 : Option V, σ = [some (.ref d), v1, v2, none] /\ Same HU H' /\ ((["iss", "sub", "jti"].take i).all fun n => ifThere ms n fun x => (isString x).isSome) = true)
        ⟨v1, v2, rfl, Same.refl _, rfl⟩ (fun i σ H' _ ⟨_, _, _, s1, _⟩ => SqT.of (s1 _ _ kU)) ?_ ?_
      · rintro i x σ H1 hx ⟨v1, v2, rfl, s1, ha⟩;obtain ⟨sn, n, rfl, hn, en, hs⟩ := names_s i x hx;have s01 := sU.trans s1;refine ⟨_, rfl, _, rfl, d, sn, kvs, t, F, ms, rfl, s01 _ _ hd, hm.same s01, hs, fun h0 H2 s2 => ?_, fun y h0 v b e H2 s2 hva => ?_⟩
        · rw [en] at h0;refine ⟨_, rfl, _, rfl, iteF (iteF ?_)⟩;exact ⟨_, _, rfl, s1.trans s2, all_take hn (there_no h0) ha⟩
        · rw [en] at h0;refine ⟨_, rfl, _, rfl, ?_⟩;rw [Y9 hva];refine iteT ?_;refine ⟨_, rfl, v, t, F, y.2, b, e, rfl, hva, ?_⟩;refine ⟨_, rfl, ?_⟩;have ei : ifThere ms n (fun x => (isString x).isSome) = (isString y.2).isSome := Z5 h0;cases hw : (isString y.2).isSome with
          | true =>
            refine iteF ?_;exact ⟨_, _, rfl, s1.trans s2, all_take hn (ei.trans hw) ha⟩
          | false =>
            refine iteT ?_;exact no H2 (s01.trans s2) (cl2 (all_bad hn (ei.trans hw)))
      · rintro σ H2 ⟨v3, v4, rfl, s2, hb⟩;have h2 : (["iss", "sub", "jti"].all fun n => ifThere ms n fun x => (isString x).isSome) = true := hb;have s02 := sU.trans s2;rw [cl3 h1 h2] at q;refine ⟨_, rfl, d, "aud", kvs, t, F, ms, rfl, s02 _ _ hd, hm.same s02, by decide +kernel, fun h0 H3 s3 => ?_, fun y h0 v b e H3 s3 hva => ?_⟩
        · refine ⟨_, rfl, _, rfl, iteT ?_⟩;have := q H3 (s02.trans s3);rw [there_no (n := "aud") h0] at this;exact this
        · refine ⟨_, rfl, _, rfl, ?_⟩;rw [Y9 hva];refine iteF ?_;refine ⟨_, rfl, v, t, F, y.2, b, e, rfl, hva, hl, fun H4 s4 => ?_⟩;have := q H4 ((s02.trans s3).trans s4);rw [Z5 (n := "aud") h0] at this;exact this
theorem scRC : z7 ["text", "members"] ["text"] (y3 (top 39)) := ⟨rfl, rfl, rfl, by decide +kernel, rfl, by decide +kernel, by decide +kernel⟩
theorem ok_rclaims {k : Nat} (hk : 3 <= k) {f : Addr} {fd : FuncData} (F : Fun K "right_claims" "right_claims" (top 39) f fd) (CMs : Callee P w K mg base CX0 "read_members" k ["text"] (spMembers K CV)) (CR : Callee P w K mg base CX0 "is_right_claims" 3 ["members"] (spRightC CV)) : FnOk P w K mg base CX0 (k + 1) f fd ["text"] (spRightClaims K CV) := by
  refine F.ok scRC (fun vs H Q E h => ?_) (fun cdv A outer s H vs Q E hr h => ?_)
  · obtain ⟨a, t, rfl, _⟩ := h;rfl
  · obtain ⟨a, t, rfl, hS, hl, hb, q1, q2⟩ := h;have hr3 : Room 3 _ := hr.mono hk
    refine ⟨_, w4 (z6 (i := 1) scRC.nd rfl (Or.inl rfl) (j6 CMs j0 hr rfl (w6 (pv 0) w9)))
      (w4 (j7 (PW.pt (pw_or (W2 (Z1 (pv 1))) (pw_or1 (Q9 (x5 (j6 CR j0 hr3 rfl (w6 (pv 1) w9))))))) (w8 (y6 Z7)) z0)
      (w8 (y6 (pv 1)))), ?_⟩
    refine ⟨_, rfl, a, t, rfl, hS, hl, hb, fun eo H1 => ?_, fun ms eo d kvs H1 s1 hd kd hm => ?_⟩
    · exact ⟨_, rfl, _, rfl, iteT (iteT (q1 eo H1))⟩
    · refine ⟨_, rfl, _, rfl, iteF ?_⟩;refine ⟨_, rfl, d, kvs, t, _, ms, rfl, kd, hm, hl, fun H2 s2 => ?_⟩;refine ⟨_, rfl, ?_⟩;cases hc : claimsOk ms with
      | false => exact iteT ((q2 ms eo).1 hc H2)
      | true => exact iteF ⟨_, rfl, (q2 ms eo).2 hc d kvs H2 (s1.trans s2) (s2 _ _ kd) (hm.same s2)⟩
end
end J
namespace J
open PySem PySem.Spec PyProof.Rows L2 G Ex
open Sv20 (Json isString wholeOf strings ifThere claimsOk headerOk stringOf named ascii)
theorem dp_nv {K : PySem.W.Frag} {H : Hp} : ∀ l : List Nat, DpAll K H (nv l) (MF.dI l)
  | [] => .nil
  | n :: l => .cons (.int _) (dp_nv l)
theorem dp_lst {K : PySem.W.Frag} {H : Hp} {a : Addr} {l : List Nat} (h : SqL K H a (nv l)) : Dp K H (.ref a) (.list (MF.dI l)) := .lst h (dp_nv l)
def rEqB (K : PySem.W.Frag) : R2 := fun x y H Q => ∃ a b l m, x = .ref a /\ y = .ref b /\ SqL K H a (nv l) /\ SqL K H b (nv m) /\ Q (.bl (decide (l = m))) H
def rNeB (K : PySem.W.Frag) : R2 := fun x y H Q => ∃ a b l m, x = .ref a /\ y = .ref b /\ SqL K H a (nv l) /\ SqL K H b (nv m) /\ Q (.bl (!decide (l = m))) H
theorem op_eqB {X : Cx} (hu : X.A.units + 64 < cLine) : OpR X (compareOp .Eq) (rEqB X.K) := op_imp (op_eqD hu) fun x y H Q ⟨a, b, l, m, e1, e2, h1, h2, q⟩ => by
  subst e1 e2;exact ⟨_, _, dp_lst h1, dp_lst h2, MF.shaped_nv _, MF.shaped_nv _, by rw [MF.eqv_nv]; exact q⟩
theorem op_neB {X : Cx} (hu : X.A.units + 64 < cLine) : OpR X (compareOp .NotEq) (rNeB X.K) := op_imp (op_neD hu) fun x y H Q ⟨a, b, l, m, e1, e2, h1, h2, q⟩ => by
  subst e1 e2;exact ⟨_, _, dp_lst h1, dp_lst h2, MF.shaped_nv _, MF.shaped_nv _, by rw [MF.eqv_nv]; exact q⟩
inductive LsAt (K : PySem.W.Frag) (H : Hp) : List V -> List (List Nat) -> Prop
  | nil : LsAt K H [] []
  | cons {a : Addr} {l : List Nat} {vs : List V} {ls : List (List Nat)} : SqL K H a (nv l) -> LsAt K H vs ls -> LsAt K H (.ref a :: vs) (l :: ls)
theorem LsAt.dp {K : PySem.W.Frag} {H : Hp} : ∀ {vs : List V} {ls : List (List Nat)}, LsAt K H vs ls -> DpAll K H vs (MF.dL ls)
  | _, _, .nil => .nil
  | _, _, .cons h t => .cons (dp_lst h) t.dp
theorem op_inB {X : Cx} (hu : X.A.units + 65 < cLine) : OpR X (compareOp .In) (fun x y H Q => ∃ a b m vs ls, x = .ref a /\ y = .ref b /\ SqL X.K H a (nv m) /\ SqL X.K H b vs /\ LsAt X.K H vs ls /\ Q (.bl (ls.contains m)) H) := by
  intro pins s σ H x y v u Q I rx ry h;obtain ⟨a, b, m, vs, ls, rfl, rfl, h1, h2, h3, q⟩ := h;obtain ⟨as, r1⟩ := Dp.reads I _ _ v (dp_lst h1) rx;obtain ⟨bs, r2⟩ := Dp.reads I (.list (MF.dL ls)) _ u (.lst h2 h3.dp) ry;refine SeqAt.in_list_reads r2 r1 (MF.lay_dL ls) (MF.lay_nv m) ?_ ?_
  · have e : (PyData.list (MF.dI m)).depth = PyData.depthAll (MF.dI m) + 1 := rfl;rw [e, MF.depth_nv];have := Nat.min_le_right (PyData.depthAll (MF.dL ls)) (0 + 1);omega
  · rw [MF.any_dL];exact ⟨.bl _, H, I, rfl, q⟩
section
variable (K : PySem.W.Frag) (CV : Addr)
def spIsStrOf : Sp := fun vs H Q _ => ∃ (v : V) (z : Str) (t : List Nat) (F : Addr -> Prop) (x : Json) (b e : Nat), vs = [v, .str z] /\ VA CV t F H v x b e /\ z.cps.size <= 1000 /\ ∀ H', Same H H' -> Q (.bl (isString x == some z.cps.toList)) H'
def spRightH : Sp := fun vs H Q _ => ∃ (d : Addr) (kvs : List (List Key × V)) (t : List Nat) (F : Addr -> Prop) (ms : List Mem), vs = [.ref d] /\ H d = some (.dT kvs) /\ VMs CV t F H kvs ms /\ ∀ H', Same H H' -> Q (.bl (headerOk ms)) H'
def spRightHeader : Sp := fun vs H Q _ => ∃ (a : Addr) (t : List Nat), vs = [.ref a] /\ SqL K H a (nv t) /\ t.length <= 100000 /\ (∀ x ∈ t, x < 256) /\ (Sv20.object t = none -> ∀ H', Q .non H') /\
  (∀ ms, Sv20.object t = some ms -> (headerOk ms = false -> ∀ H', Q .non H') /\ (headerOk ms = true -> ∀ d kvs H', Same H H' -> H' d = some (.dT kvs) -> VMs CV t (Fr H) H' kvs ms -> Q (.ref d) H'))
def spKidOf : Sp := fun vs H Q _ => ∃ (d : Addr) (kvs : List (List Key × V)) (t : List Nat) (F : Addr -> Prop) (ms : List Mem), vs = [.ref d] /\ H d = some (.dT kvs) /\ VMs CV t F H kvs ms /\ headerOk ms = true /\ ∀ p H', Same H H' -> H' p = some (.lst (nv ((stringOf ms "kid").getD []))) -> Q (.ref p) H'
def spStarts : Sp := fun vs H Q _ => ∃ (d : Addr) (now slack : Nat) (kvs : List (List Key × V)) (t : List Nat) (F : Addr -> Prop) (ms : List Mem), vs = [.ref d, .int (now : Int), .int (slack : Int)] /\ H d = some (.dT kvs) /\ VMs CV t F H kvs ms /\ claimsOk ms = true /\
  ∀ H', Same H H' -> Q (.bl (((named ms (ascii "nbf")).bind fun y => wholeOf y.2).any fun n => decide (now + slack < n))) H'
def spEnds : Sp := fun vs H Q _ => ∃ (d : Addr) (now slack : Nat) (kvs : List (List Key × V)) (t : List Nat) (F : Addr -> Prop) (ms : List Mem), vs = [.ref d, .int (now : Int), .int (slack : Int)] /\ H d = some (.dT kvs) /\ VMs CV t F H kvs ms /\ claimsOk ms = true /\
  ∀ H', Same H H' -> Q (.bl (((named ms (ascii "exp")).bind fun y => wholeOf y.2).any fun n => decide (n + slack <= now))) H'
def spFromI : Sp := fun vs H Q _ => ∃ (d a : Addr) (l : List Nat) (kvs : List (List Key × V)) (t : List Nat) (F : Addr -> Prop) (ms : List Mem), vs = [.ref d, .ref a] /\ SqL K H a (nv l) /\ H d = some (.dT kvs) /\ VMs CV t F H kvs ms /\ claimsOk ms = true /\
  ∀ H', Same H H' -> Q (.bl (stringOf ms "iss" == some l)) H'
def spForA : Sp := fun vs H Q _ => ∃ (d a : Addr) (l : List Nat) (kvs : List (List Key × V)) (t : List Nat) (F : Addr -> Prop) (ms : List Mem), vs = [.ref d, .ref a] /\ SqL K H a (nv l) /\ H d = some (.dT kvs) /\ VMs CV t F H kvs ms /\ claimsOk ms = true /\ t.length <= 100000 /\
  ∀ H', Same H H' -> Q (.bl ((((named ms (ascii "aud")).bind fun y => strings y.2).getD []).contains l)) H'
end
theorem right_all {ms : List Mem} (h : claimsOk ms = true) : (∀ n ∈ ["exp", "nbf", "iat"], ifThere ms n (fun x => (wholeOf x).isSome) = true) /\ (∀ n ∈ ["iss", "sub", "jti"], ifThere ms n (fun x => (isString x).isSome) = true) /\ ifThere ms "aud" (fun x => (strings x).isSome) = true := by
  unfold claimsOk at h;rw [Bool.and_eq_true, Bool.and_eq_true] at h;exact ⟨List.all_eq_true.mp h.1, List.all_eq_true.mp h.2.1, h.2.2⟩
theorem right_time {ms : List Mem} (h : claimsOk ms = true) {n : String} (hn : n ∈ ["exp", "nbf", "iat"]) {y : List Nat × Json} (e : named ms (ascii n) = some y) : ∃ b, y.2 = .number b /\ b.all Sv20.digit = true /\ wholeOf y.2 = some (ME.dval b) := by
  have := (right_all h).1 n hn;rw [Z5 e] at this;cases hy : y.2 with
  | number b =>
    rw [hy, ME.whole_num] at this;by_cases c : b.all Sv20.digit = true /\ ME.dval b < 2 ^ 53
    · exact ⟨b, rfl, c.1, by rw [ME.whole_num, if_pos c]⟩
    · rw [if_neg c] at this; cases this
  | word b => rw [hy] at this; cases this
  | string b => rw [hy] at this; cases this
  | array b => rw [hy] at this; cases this
  | object b => rw [hy] at this; cases this
theorem is_str {x : Json} (h : (isString x).isSome = true) : ∃ b, x = .string b := by
  cases x with
  | string b => exact ⟨b, rfl⟩
  | word b => cases h
  | number b => cases h
  | array b => cases h
  | object b => cases h
section
variable {P : Program} {w : World} {K : PySem.W.Frag} {mg : Str -> Option Value} {base : Heap} {CR CN CV aB aK : Addr}
theorem scSo : z7 ["value", "text"] ["value", "text"] (y3 (top 30)) := ⟨rfl, rfl, rfl, by decide +kernel, rfl, by decide +kernel, by decide +kernel⟩
theorem hu64 {k : Nat} {A : Around} (h : Room k A) : A.units + 65 < cLine := by have := h.un; omega
theorem ok_strof {f : Addr} {fd : FuncData} (F : Fun K "is_string_of" "is_string_of" (top 30) f fd) (T6 : Txt6 K mg CV aK) (CI : Callee P w K mg base CX0 "is_string" 1 ["value"] (spIsStr CV)) (CA : Callee P w K mg base CX0 "ascii_of" 1 ["text"] spAscii) : FnOk P w K mg base CX0 2 f fd ["value", "text"] (spIsStrOf CV) := by
  refine F.ok scSo (fun vs H Q E h => ?_) (fun cdv A outer s H vs Q E hr h => ?_)
  · obtain ⟨v, z, t, F, x, b, e, rfl, _⟩ := h;rfl
  · obtain ⟨v, z, t, F, x, b, e, rfl, hva, hz, q⟩ := h;have hu : _ + 65 < cLine := hu64 hr;refine ⟨_, w8 (y6 (pe_and (j6 CI j0 hr rfl (w6 (pv 0) w9)) (pe_one (pe_cmpR (op_eqB (Nat.lt_of_succ_lt hu)) (k7 (pv 0) rfl) (j6 CA j0 hr rfl (w6 (pv 1) w9)) (j9 _))))), ?_⟩;refine ⟨_, rfl, v, t, F, x, b, e, rfl, hva, _, rfl, ?_⟩;refine ite2b (fun c => ?_) (fun c => ?_)
    · obtain ⟨bs, rfl⟩ := is_str c;cases hva with
      | @mk p dx k i x b e fp hp hi =>
        cases hi with
        | @str l bs fl kl hl =>
          refine ⟨_, rfl, p, CV, dx, _, _, rfl, hp, T6.cl, T6.nI, rfl, _, rfl, z, rfl, hz, fun p1 H1 s1 n1 k1 => ?_⟩;refine ⟨l, p1, bs, _, rfl, rfl, SqL.of (s1 _ _ kl), SqL.of k1, ?_⟩;have := q H1 s1
          have e : (isString (.string bs) == some z.cps.toList) = decide (bs = z.cps.toList) := by
            show (some bs == some z.cps.toList) = _;rw [Bool.eq_iff_iff, beq_iff_eq, decide_eq_true_eq];exact ⟨Option.some.inj, fun h => by rw [h]⟩
          rw [e] at this;exact this
    · have := q H (Same.refl _)
      have e : (isString x == some z.cps.toList) = false := by
        cases hx : isString x with
        | none => rfl
        | some b => rw [hx] at c; cases c
      rw [e] at this;exact this
theorem scRh : z7 ["members", "alg", "typ", "kid"] ["members"] (y3 (top 45)) := ⟨rfl, rfl, rfl, by decide +kernel, rfl, by decide +kernel, by decide +kernel⟩
theorem ok_righth {f : Addr} {fd : FuncData} (F : Fun K "is_right" "is_right" (top 45) f fd) (CM : Callee P w K mg base CX0 "member" 2 ["members", "name"] (Y1 CV)) (CO : Callee P w K mg base CX0 "is_string_of" 2 ["value", "text"] (spIsStrOf CV)) (CI : Callee P w K mg base CX0 "is_string" 1 ["value"] (spIsStr CV)) : FnOk P w K mg base CX0 3 f fd ["members"] (spRightH CV) := by
  refine F.ok scRh (fun vs H Q E h => ?_) (fun cdv A outer s H vs Q E hr h => ?_)
  · obtain ⟨d, kvs, t, F, ms, rfl, _⟩ := h;rfl
  · obtain ⟨d, kvs, t, F, ms, rfl, hd, hm, q⟩ := h;have hr1 : Room 1 _ := hr.mono (by decide)
    refine ⟨_, w4 (z6 (i := 1) scRh.nd rfl (Or.inl rfl) (j6 CM j0 hr rfl (w6 (pv 0) (w6 W5 w9))))
      (w4 (j7 (PW.pt (pw_or (W2 (Z1 (pv 1))) (pw_or1 (Q9 (x5 (j6 CO j0 hr rfl (w6 (pv 1) (w6 W5 w9)))))))) (w8 (y6 pe_bl)) z0)
      (w4 (z6 (i := 2) scRh.nd rfl (Or.inl rfl) (j6 CM j0 hr rfl (w6 (pv 0) (w6 W5 w9))))
      (w4 (j7 (PW.pt (pw_and (W2 (pc_notN (pv 2))) (pw_and1 (Q9 (x5 (j6 CO j0 hr rfl (w6 (pv 2) (w6 W5 w9)))))))) (w8 (y6 pe_bl)) z0)
      (w4 (z6 (i := 3) scRh.nd rfl (Or.inl rfl) (j6 CM j0 hr rfl (w6 (pv 0) (w6 W5 w9))))
      (w4 (j7 (PW.pt (pw_and (W2 (pc_notN (pv 3))) (pw_and1 (Q9 (x5 (j6 CI j0 hr1 rfl (w6 (pv 3) w9))))))) (w8 (y6 pe_bl)) z0)
      (w8 (y6 (pe_cmp (Z1 (j6 CM j0 hr rfl (w6 (pv 0) (w6 W5 w9)))))))))))), ?_⟩
    have eh : headerOk ms = (stringOf ms "alg" == some (ascii "HS256") && (ifThere ms "typ" (fun x => isString x == some (ascii "JWT")) && (ifThere ms "kid" (fun x => (isString x).isSome) && (named ms (ascii "crit")).isNone))) := rfl;have no : ∀ H', Same H H' -> headerOk ms = false -> Q (.bl false) H' := fun H' s e => by rw [<- e]; exact q H' s
    have last : ∀ (v1 v2 : V) (H1 : Hp), Same H H1 -> (stringOf ms "alg" == some (ascii "HS256")) = true -> ifThere ms "typ" (fun x => isString x == some (ascii "JWT")) = true ->
        tSeq (tAsg (tCall (Y1 CV) [] E0 (Q0 (tVar 0) (Q0 (tC (.str "kid")) tNil))) (gName 3)) (tSeq (tIfS (tAnd (tB (tNotN (tVar 3))) (tNot (tB (tCall (spIsStr CV) [] E0 (Q0 (tVar 3) tNil))))) (tRet (tC (.bl false))) tNext) (tRet (tIsN (tCall (Y1 CV) [] E0 (Q0 (tVar 0) (Q0 (tC (.str "crit")) tNil)))))) { nx := fun _ H' => Q .non H', rt := Q } [some (.ref d), some v1, some v2, none] H1 := by
      intro v1 v2 H1 s1 ea et;rw [ea, et] at eh
      have crit : ∀ (v3 : V) (H2 : Hp), Same H H2 -> ifThere ms "kid" (fun x => (isString x).isSome) = true -> tRet (tIsN (tCall (Y1 CV) [] E0 (Q0 (tVar 0) (Q0 (tC (.str "crit")) tNil)))) { nx := fun _ H' => Q .non H', rt := Q } [some (.ref d), some v1, some v2, some v3] H2 := by
        intro v3 H2 s2 ek;rw [ek] at eh;refine ⟨_, rfl, d, "crit", kvs, t, F, ms, rfl, s2 _ _ hd, hm.same s2, by decide +kernel, fun h0 H3 s3 => ?_, fun y h0 v b e H3 s3 hva => ?_⟩
        · have := q H3 (s2.trans s3);have h0 : named ms (ascii "crit") = none := h0;rw [eh, h0] at this;exact this
        · have := q H3 (s2.trans s3);have h0 : named ms (ascii "crit") = some y := h0;rw [eh, h0] at this;show Q (.bl (decide (v = .non))) H3;rw [Y9 hva];exact this
      refine ⟨_, rfl, d, "kid", kvs, t, F, ms, rfl, s1 _ _ hd, hm.same s1, by decide +kernel, fun h0 H2 s2 => ?_, fun y h0 v b e H2 s2 hva => ?_⟩
      · have h0 : named ms (ascii "kid") = none := h0;exact ⟨_, rfl, _, rfl, iteF (iteF (crit _ H2 (s1.trans s2) (there_no h0)))⟩
      · have h0 : named ms (ascii "kid") = some y := h0;refine ⟨_, rfl, _, rfl, ?_⟩;rw [Y9 hva];refine iteT ?_;refine ⟨_, rfl, v, t, F, y.2, b, e, rfl, hva, _, rfl, ?_⟩;have ei : ifThere ms "kid" (fun x => (isString x).isSome) = (isString y.2).isSome := Z5 h0;cases hw : (isString y.2).isSome with
        | true => exact iteF (crit _ H2 (s1.trans s2) (ei.trans hw))
        | false =>
          rw [hw] at ei;rw [ei] at eh;exact iteT (no H2 (s1.trans s2) eh)
    refine ⟨_, rfl, d, "alg", kvs, t, F, ms, rfl, hd, hm, by decide +kernel, fun h0 H1 s1 => ?_, fun y h0 v b e H1 s1 hva => ?_⟩
    · have h0 : named ms (ascii "alg") = none := h0;have ea : stringOf ms "alg" = none := by unfold stringOf; rw [h0]; rfl
      rw [ea] at eh;exact ⟨_, rfl, _, rfl, iteT (iteT (no H1 s1 eh))⟩
    · have h0 : named ms (ascii "alg") = some y := h0;have ea : stringOf ms "alg" = isString y.2 := by unfold stringOf; rw [h0]; rfl
      refine ⟨_, rfl, _, rfl, ?_⟩;rw [Y9 hva];refine iteF ?_;refine ⟨_, rfl, v, "HS256", t, F, y.2, b, e, rfl, hva, by decide +kernel, fun H2 s2 => ?_⟩;refine ⟨_, rfl, ?_⟩;have ez : (("HS256" : Str).cps.toList) = ascii "HS256" := by decide +kernel
      rw [ez];rw [<- ea];cases hw : (stringOf ms "alg" == some (ascii "HS256")) with
      | false =>
        rw [hw] at eh;exact iteT (no H2 (s1.trans s2) eh)
      | true =>
        refine iteF ?_;have s12 := s1.trans s2;refine ⟨_, rfl, d, "typ", kvs, t, F, ms, rfl, s12 _ _ hd, hm.same s12, by decide +kernel, fun h0 H3 s3 => ?_, fun y h0 v' b e H3 s3 hva => ?_⟩
        · have h0 : named ms (ascii "typ") = none := h0;exact ⟨_, rfl, _, rfl, iteF (iteF (last _ _ H3 (s12.trans s3) hw (there_no h0)))⟩
        · have h0 : named ms (ascii "typ") = some y := h0;refine ⟨_, rfl, _, rfl, ?_⟩;rw [Y9 hva];refine iteT ?_;refine ⟨_, rfl, v', "JWT", t, F, y.2, b, e, rfl, hva, by decide +kernel, fun H4 s4 => ?_⟩;refine ⟨_, rfl, ?_⟩;have ez : (("JWT" : Str).cps.toList) = ascii "JWT" := by decide +kernel
          rw [ez];have ei : ifThere ms "typ" (fun x => isString x == some (ascii "JWT")) = (isString y.2 == some (ascii "JWT")) := Z5 h0;cases hw2 : (isString y.2 == some (ascii "JWT")) with
          | true => exact iteF (last _ _ H4 ((s12.trans s3).trans s4) hw (ei.trans hw2))
          | false =>
            rw [hw2] at ei;rw [hw, ei] at eh;exact iteT (no H4 ((s12.trans s3).trans s4) eh)
theorem scRH : z7 ["text", "members"] ["text"] (y3 (top 47)) := ⟨rfl, rfl, rfl, by decide +kernel, rfl, by decide +kernel, by decide +kernel⟩
theorem ok_rheader {k : Nat} (hk : 3 <= k) {f : Addr} {fd : FuncData} (F : Fun K "right_header" "right_header" (top 47) f fd) (CMs : Callee P w K mg base CX0 "read_members" k ["text"] (spMembers K CV)) (CR : Callee P w K mg base CX0 "is_right_header" 3 ["members"] (spRightH CV)) : FnOk P w K mg base CX0 (k + 1) f fd ["text"] (spRightHeader K CV) := by
  refine F.ok scRH (fun vs H Q E h => ?_) (fun cdv A outer s H vs Q E hr h => ?_)
  · obtain ⟨a, t, rfl, _⟩ := h;rfl
  · obtain ⟨a, t, rfl, hS, hl, hb, q1, q2⟩ := h;have hr3 : Room 3 _ := hr.mono hk
    refine ⟨_, w4 (z6 (i := 1) scRH.nd rfl (Or.inl rfl) (j6 CMs j0 hr rfl (w6 (pv 0) w9)))
      (w4 (j7 (PW.pt (pw_or (W2 (Z1 (pv 1))) (pw_or1 (Q9 (x5 (j6 CR j0 hr3 rfl (w6 (pv 1) w9))))))) (w8 (y6 Z7)) z0)
      (w8 (y6 (pv 1)))), ?_⟩
    refine ⟨_, rfl, a, t, rfl, hS, hl, hb, fun eo H1 => ?_, fun ms eo d kvs H1 s1 hd kd hm => ?_⟩
    · exact ⟨_, rfl, _, rfl, iteT (iteT (q1 eo H1))⟩
    · refine ⟨_, rfl, _, rfl, iteF ?_⟩;refine ⟨_, rfl, d, kvs, t, _, ms, rfl, kd, hm, fun H2 s2 => ?_⟩;refine ⟨_, rfl, ?_⟩;cases hc : headerOk ms with
      | false => exact iteT ((q2 ms eo).1 hc H2)
      | true => exact iteF ⟨_, rfl, (q2 ms eo).2 hc d kvs H2 (s1.trans s2) (s2 _ _ kd) (hm.same s2)⟩
theorem scKo : z7 ["header", "kid"] ["header"] (y3 (top 48)) := ⟨rfl, rfl, rfl, by decide +kernel, rfl, by decide +kernel, by decide +kernel⟩
theorem ok_kidof {f : Addr} {fd : FuncData} (F : Fun K "kid_of" "kid_of" (top 48) f fd) (T6 : Txt6 K mg CV aK) (CM : Callee P w K mg base CX0 "member" 2 ["members", "name"] (Y1 CV)) : FnOk P w K mg base CX0 3 f fd ["header"] (spKidOf CV) := by
  refine F.ok scKo (fun vs H Q E h => ?_) (fun cdv A outer s H vs Q E hr h => ?_)
  · obtain ⟨d, kvs, t, F, ms, rfl, _⟩ := h;rfl
  · obtain ⟨d, kvs, t, F, ms, rfl, hd, hm, ho, q⟩ := h
    refine ⟨_, w4 (z6 (i := 1) scKo.nd rfl (Or.inl rfl) (j6 CM j0 hr rfl (w6 (pv 0) (w6 W5 w9))))
      (w4 (j7 (W2 (Z1 (pv 1))) (w8 (y6 (W6 w9))) z0)
      (w8 (y6 (k7 (pv 1) rfl)))), ?_⟩
    refine ⟨_, rfl, d, "kid", kvs, t, F, ms, rfl, hd, hm, by decide +kernel, fun h0 H1 s1 => ?_, fun y h0 v b e H1 s1 hva => ?_⟩
    · have h0 : named ms (ascii "kid") = none := h0;refine ⟨_, rfl, _, rfl, iteT ⟨Nat.zero_le _, fun p hp => q p _ (s1.trans (z8 hp _)) ?_⟩⟩;rw [y1];unfold stringOf;rw [h0];rfl
    · have h0 : named ms (ascii "kid") = some y := h0;refine ⟨_, rfl, _, rfl, ?_⟩;rw [Y9 hva];refine iteF ?_
      have hk : ifThere ms "kid" (fun x => (isString x).isSome) = true := by
        unfold headerOk at ho;rw [Bool.and_eq_true, Bool.and_eq_true, Bool.and_eq_true] at ho;exact ho.2.2.1
      rw [Z5 h0] at hk;obtain ⟨bs, ey⟩ := is_str hk;rw [ey] at hva;cases hva with
      | @mk p dx k i x b e fp hp hi =>
        cases hi with
        | @str l bs fl kl hl =>
          refine ⟨_, rfl, p, CV, dx, _, _, rfl, hp, T6.cl, T6.nI, rfl, q l H1 s1 ?_⟩;rw [kl];unfold stringOf;rw [h0];show _ = some (HO.lst (nv ((isString y.2).getD [])));rw [ey];rfl
theorem scSt : z7 ["claims", "now", "slack", "nbf"] ["claims", "now", "slack"] (y3 (top 40)) := ⟨rfl, rfl, rfl, by decide +kernel, rfl, by decide +kernel, by decide +kernel⟩
theorem ok_starts {f : Addr} {fd : FuncData} (F : Fun K "starts_after" "starts_after" (top 40) f fd) (T6 : Txt6 K mg CV aK) (CM : Callee P w K mg base CX0 "member" 2 ["members", "name"] (Y1 CV)) (CW : Callee P w K mg base CX0 "whole_number" 1 ["digits"] (spWhole K)) : FnOk P w K mg base CX0 3 f fd ["claims", "now", "slack"] (spStarts CV) := by
  refine F.ok scSt (fun vs H Q E h => ?_) (fun cdv A outer s H vs Q E hr h => ?_)
  · obtain ⟨d, now, slack, kvs, t, F, ms, rfl, _⟩ := h;rfl
  · obtain ⟨d, now, slack, kvs, t, F, ms, rfl, hd, hm, ho, q⟩ := h;have hr1 : Room 1 _ := hr.mono (by decide)
    refine ⟨_, w4 (z6 (i := 3) scSt.nd rfl (Or.inl rfl) (j6 CM j0 hr rfl (w6 (pv 0) (w6 W5 w9))))
      (w8 (y6 (pe_and (pe_cmp (pc_notN (pv 3))) (pe_one (pe_cmpR op_gt (j6 CW j0 hr1 rfl (w6 (k7 (pv 3) rfl) w9)) (y8 Q2 (pv 1) (pv 2)) (j9 _)))))), ?_⟩
    refine ⟨_, rfl, d, "nbf", kvs, t, F, ms, rfl, hd, hm, by decide +kernel, fun h0 H1 s1 => ?_, fun y h0 v b e H1 s1 hva => ?_⟩
    · have h0 : named ms (ascii "nbf") = none := h0;refine ⟨_, rfl, _, rfl, iteF ?_⟩;have := q H1 s1;rw [h0] at this;exact this
    · have h0 : named ms (ascii "nbf") = some y := h0;refine ⟨_, rfl, _, rfl, ?_⟩;rw [Y9 hva];refine iteT ?_;obtain ⟨bs, ey, hdg, hw⟩ := right_time ho (by simp) h0;rw [ey] at hva;cases hva with
      | @mk p dx k i x b e fp hp hi =>
        cases hi with
        | @num l bs fl kl hl hn =>
          refine ⟨_, rfl, p, CV, dx, _, _, rfl, hp, T6.cl, T6.nI, rfl, l, bs, rfl, SqL.of kl, hdg, _, rfl, _, rfl, now, slack, rfl, rfl, _, _, rfl, rfl, ?_⟩;have := q H1 s1;rw [h0] at this;have this : Q (.bl ((wholeOf y.2).any fun n => decide (now + slack < n))) H1 := this;rw [hw] at this;have this : Q (.bl (decide (now + slack < ME.dval bs))) H1 := this
          have e2 : decide (((now + slack : Nat) : Int) < ((ME.dval bs : Nat) : Int)) = decide (now + slack < ME.dval bs) := by
            rw [Bool.eq_iff_iff, decide_eq_true_eq, decide_eq_true_eq];omega
          rw [<- e2] at this;exact this
theorem scEn : z7 ["claims", "now", "slack", "exp"] ["claims", "now", "slack"] (y3 (top 41)) := ⟨rfl, rfl, rfl, by decide +kernel, rfl, by decide +kernel, by decide +kernel⟩
theorem ok_ends {f : Addr} {fd : FuncData} (F : Fun K "ends_by" "ends_by" (top 41) f fd) (T6 : Txt6 K mg CV aK) (CM : Callee P w K mg base CX0 "member" 2 ["members", "name"] (Y1 CV)) (CW : Callee P w K mg base CX0 "whole_number" 1 ["digits"] (spWhole K)) : FnOk P w K mg base CX0 3 f fd ["claims", "now", "slack"] (spEnds CV) := by
  refine F.ok scEn (fun vs H Q E h => ?_) (fun cdv A outer s H vs Q E hr h => ?_)
  · obtain ⟨d, now, slack, kvs, t, F, ms, rfl, _⟩ := h;rfl
  · obtain ⟨d, now, slack, kvs, t, F, ms, rfl, hd, hm, ho, q⟩ := h;have hr1 : Room 1 _ := hr.mono (by decide)
    refine ⟨_, w4 (z6 (i := 3) scEn.nd rfl (Or.inl rfl) (j6 CM j0 hr rfl (w6 (pv 0) (w6 W5 w9))))
      (w8 (y6 (pe_and (pe_cmp (pc_notN (pv 3))) (pe_one (pe_cmpR op_ge (pv 1) (y8 Q2 (j6 CW j0 hr1 rfl (w6 (k7 (pv 3) rfl) w9)) (pv 2)) (j9 _)))))), ?_⟩
    refine ⟨_, rfl, d, "exp", kvs, t, F, ms, rfl, hd, hm, by decide +kernel, fun h0 H1 s1 => ?_, fun y h0 v b e H1 s1 hva => ?_⟩
    · have h0 : named ms (ascii "exp") = none := h0;refine ⟨_, rfl, _, rfl, iteF ?_⟩;have := q H1 s1;rw [h0] at this;exact this
    · have h0 : named ms (ascii "exp") = some y := h0;refine ⟨_, rfl, _, rfl, ?_⟩;rw [Y9 hva];refine iteT ?_;obtain ⟨bs, ey, hdg, hw⟩ := right_time ho (by simp) h0;rw [ey] at hva;cases hva with
      | @mk p dx k i x b e fp hp hi =>
        cases hi with
        | @num l bs fl kl hl hn =>
          refine ⟨_, rfl, _, rfl, p, CV, dx, _, _, rfl, hp, T6.cl, T6.nI, rfl, l, bs, rfl, SqL.of kl, hdg, _, rfl, ME.dval bs, slack, rfl, rfl, _, _, rfl, rfl, ?_⟩;have := q H1 s1;rw [h0] at this;have this : Q (.bl ((wholeOf y.2).any fun n => decide (n + slack <= now))) H1 := this;rw [hw] at this;have this : Q (.bl (decide (ME.dval bs + slack <= now))) H1 := this
          have e2 : decide (((ME.dval bs + slack : Nat) : Int) <= ((now : Nat) : Int)) = decide (ME.dval bs + slack <= now) := by
            rw [Bool.eq_iff_iff, decide_eq_true_eq, decide_eq_true_eq];omega
          rw [<- e2] at this;exact this
theorem scFi : z7 ["claims", "iss", "value"] ["claims", "iss"] (y3 (top 42)) := ⟨rfl, rfl, rfl, by decide +kernel, rfl, by decide +kernel, by decide +kernel⟩
theorem some_beq (a b : List Nat) : (some a == some b) = decide (a = b) := by
  rw [Bool.eq_iff_iff, beq_iff_eq, decide_eq_true_eq];exact ⟨Option.some.inj, fun h => by rw [h]⟩
theorem ok_isfrom {f : Addr} {fd : FuncData} (F : Fun K "is_from" "is_from" (top 42) f fd) (T6 : Txt6 K mg CV aK) (CM : Callee P w K mg base CX0 "member" 2 ["members", "name"] (Y1 CV)) : FnOk P w K mg base CX0 3 f fd ["claims", "iss"] (spFromI K CV) := by
  refine F.ok scFi (fun vs H Q E h => ?_) (fun cdv A outer s H vs Q E hr h => ?_)
  · obtain ⟨d, a, l, kvs, t, F, ms, rfl, _⟩ := h;rfl
  · obtain ⟨d, a, l, kvs, t, F, ms, rfl, hA, hd, hm, ho, q⟩ := h;have hu : _ + 65 < cLine := hu64 hr
    refine ⟨_, w4 (z6 (i := 2) scFi.nd rfl (Or.inl rfl) (j6 CM j0 hr rfl (w6 (pv 0) (w6 W5 w9))))
      (w8 (y6 (pe_and (pe_cmp (pc_notN (pv 2))) (pe_one (pe_cmpR (op_eqB (Nat.lt_of_succ_lt hu)) (k7 (pv 2) rfl) (pv 1) (j9 _)))))), ?_⟩
    refine ⟨_, rfl, d, "iss", kvs, t, F, ms, rfl, hd, hm, by decide +kernel, fun h0 H1 s1 => ?_, fun y h0 v b e H1 s1 hva => ?_⟩
    · have h0 : named ms (ascii "iss") = none := h0;refine ⟨_, rfl, _, rfl, iteF ?_⟩;have := q H1 s1;unfold stringOf at this;rw [h0] at this;exact this
    · have h0 : named ms (ascii "iss") = some y := h0;refine ⟨_, rfl, _, rfl, ?_⟩;rw [Y9 hva];refine iteT ?_;have hk := (right_all ho).2.1 "iss" (by simp);rw [Z5 h0] at hk;obtain ⟨bs, ey⟩ := is_str hk;rw [ey] at hva;cases hva with
      | @mk p dx k i x b e fp hp hi =>
        cases hi with
        | @str l2 bs fl kl hl =>
          refine ⟨_, rfl, p, CV, dx, _, _, rfl, hp, T6.cl, T6.nI, rfl, _, rfl, l2, a, bs, l, rfl, rfl, SqL.of kl, s1.seq hA, ?_⟩;have := q H1 s1;unfold stringOf at this;rw [h0] at this;have this : Q (.bl (isString y.2 == some l)) H1 := this;rw [ey] at this;have this : Q (.bl (some bs == some l)) H1 := this;rw [some_beq] at this;exact this
theorem scFa : z7 ["claims", "aud", "value", "part"] ["claims", "aud"] (y3 (top 43)) := ⟨rfl, rfl, rfl, by decide +kernel, rfl, by decide +kernel, by decide +kernel⟩
theorem LsAt.same {K : PySem.W.Frag} {H H' : Hp} (s : Same H H') : ∀ {vs : List V} {ls : List (List Nat)}, LsAt K H vs ls -> LsAt K H' vs ls
  | _, _, .nil => .nil
  | _, _, .cons h t => .cons (s.seq h) (t.same s)
theorem LsAt.snoc {K : PySem.W.Frag} {H : Hp} {a : Addr} {l : List Nat} (h : SqL K H a (nv l)) : ∀ {vs : List V} {ls : List (List Nat)}, LsAt K H vs ls -> LsAt K H (vs ++ [.ref a]) (ls ++ [l])
  | _, _, .nil => .cons h .nil
  | _, _, .cons h' t => .cons h' (t.snoc h)
theorem LsAt.len {K : PySem.W.Frag} {H : Hp} : ∀ {vs : List V} {ls : List (List Nat)}, LsAt K H vs ls -> vs.length = ls.length
  | _, _, .nil => rfl
  | _, _, .cons _ t => by rw [List.length_cons, List.length_cons, t.len]
theorem ok_isfor {f : Addr} {fd : FuncData} (F : Fun K "is_for" "is_for" (top 43) f fd) (T6 : Txt6 K mg CV aK) (CM : Callee P w K mg base CX0 "member" 2 ["members", "name"] (Y1 CV)) : FnOk P w K mg base CX0 3 f fd ["claims", "aud"] (spForA K CV) := by
  refine F.ok scFa (fun vs H Q E h => ?_) (fun cdv A outer s H vs Q E hr h => ?_)
  · obtain ⟨d, a, l, kvs, t, F, ms, rfl, _⟩ := h;rfl
  · obtain ⟨d, a, l, kvs, t, F, ms, rfl, hA, hd, hm, ho, ht, q⟩ := h;have hu : _ + 65 < cLine := hu64 hr;have lz : sizeLine = 16777216 := rfl
    refine ⟨_, w4 (z6 (i := 2) scFa.nd rfl (Or.inl rfl) (j6 CM j0 hr rfl (w6 (pv 0) (w6 W5 w9))))
      (w4 (j7 (W2 (Z1 (pv 2))) (w8 (y6 pe_bl)) z0)
      (w4 (j7 (j8 op_eq (k7 (pv 2) rfl) (pe_gs rfl T6.ga) (j9 _)) (w8 (y6 (pe_cmpR (op_inB hu) (pv 1) (pe_lc (te := tFld K (tVar 3) "inner") (own := [("part", 3)]) rfl scFa.nd (pi_list (k7 (pv 2) rfl)) (Y8 (by show blkC ["claims", "aud", "value", "part"] (y3 (top 43)) _ [("part", 3)] = true; decide +kernel))
        (fun s H C cl fp => k9 (i := 3) scFa.nd rfl (Or.inl rfl)) (fun s H C cl fp => pts_nil) (fun s H C cl fp => by exact k7 (pv 3) rfl)) (by with_unfolding_all rfl)))) z0)
      (w8 (y6 (pe_cmpR (op_eqB (Nat.lt_of_succ_lt hu)) (k7 (pv 2) rfl) (pv 1) (j9 _)))))), ?_⟩
    refine ⟨_, rfl, d, "aud", kvs, t, F, ms, rfl, hd, hm, by decide +kernel, fun h0 H1 s1 => ?_, fun y h0 v b e H1 s1 hva => ?_⟩
    · have h0 : named ms (ascii "aud") = none := h0;refine ⟨_, rfl, _, rfl, iteT ?_⟩;have := q H1 s1;rw [h0] at this;exact this
    · have h0 : named ms (ascii "aud") = some y := h0;refine ⟨_, rfl, _, rfl, ?_⟩;rw [Y9 hva];refine iteF ?_;have hk := (right_all ho).2.2;rw [Z5 h0] at hk;rw [h0] at q;have q : ∀ H', Same H H' -> Q (.bl (((strings y.2).getD []).contains l)) H' := q;generalize y.2 = yj at hva hk q;cases hva with
      | @mk p dx k i x b e fp hp hi =>
        refine ⟨_, rfl, p, CV, dx, _, _, rfl, hp, T6.cl, T6.nK, rfl, rfl, _, rfl, ?_⟩;cases hi with
        | num => cases hk
        | word => cases hk
        | obj => cases hk
        | @str l2 bs fl kl hl =>
          refine ifS (fun n => absurd n (by decide +kernel)) (fun _ => ?_);refine ⟨_, rfl, p, CV, dx, _, _, rfl, hp, T6.cl, T6.nI, rfl, _, rfl, l2, a, bs, l, rfl, rfl, SqL.of kl, s1.seq hA, ?_⟩;have := q H1 s1
          have e2 : (((strings (.string bs)).getD []).contains l) = decide (bs = l) := by
            show ([bs].contains l) = _;rw [Bool.eq_iff_iff, decide_eq_true_eq];simp;exact eq_comm
          rw [e2] at this;exact this
        | @arr l2 vs xs fl kl hlv hv =>
          refine ifS (fun _ => ?_) (fun n => absurd rfl n);have hk : (xs.mapM isString).isSome = true := hk;obtain ⟨bss, hbs⟩ := Option.isSome_iff_exists.mp hk;have ex := ME.strings_get xs bss hbs;have q : ∀ H', Same H H' -> Q (.bl (((xs.mapM isString).getD []).contains l)) H' := q;rw [hbs] at q;refine ⟨_, rfl, _, rfl, p, CV, dx, _, _, rfl, hp, T6.cl, T6.nI, rfl, l2, rfl, ⟨_, SqL.of kl⟩, fun D hD => ?_⟩;refine lc_list (K := K) (a := l2) (xs := vs) (fun j H' => Same H1 H' /\ ∃ acc, H' D = some (.lst acc) /\ LsAt K H1 acc (bss.take j)) ⟨z8 hD _, [], y1, .nil⟩ (fun j H' _ z => SqL.of (z.1 _ _ kl)) ?_ ?_
          · rintro j v H' hx' ⟨z, acc, kz, hls⟩;obtain ⟨yy, b', e', hy, hvy⟩ := hv.get hx';have hj := (List.getElem?_eq_some_iff.mp hy).1;rw [ex, List.getElem?_map] at hy;obtain ⟨bb, hbb, rfl⟩ := Option.map_eq_some_iff.mp hy;cases hvy with
            | @mk p2 dx2 k2 i2 x2 b2 e2 fp2 hp2 hi2 =>
              cases hi2 with
              | @str l3 bs3 fl3 kl3 hl3 =>
                refine ⟨rfl, yes ?_⟩;refine ⟨_, rfl, p2, CV, dx2, _, _, rfl, z _ _ hp2, T6.cl, T6.nI, rfl, acc, kz, ?_, Q3 z hD _, _, y1, ?_⟩
                · rw [hls.len, List.length_take];have := hv.len;rw [ex, List.length_map] at this;omega
                · rw [List.take_add_one, hbb];exact hls.snoc (SqL.of kl3)
          · rintro H2 ⟨z, acc, kz, hls⟩;have hlen := hv.len;rw [ex, List.length_map] at hlen;rw [hlen, List.take_length] at hls;exact ⟨a, D, l, acc, bss, rfl, rfl, (s1.trans z).seq hA, SqL.of kz, hls.same z, q H2 (s1.trans z)⟩
end
end J
namespace J
open PySem PySem.Spec PyProof.Rows L2 G Ex
open Sv20 (Json unpacked tokenOf)
theorem lc_enum {K : PySem.W.Frag} {a : Addr} {xs : List V} {g : TG} {tt : TT} {te : TE} {vs : List Nat} {σ : L2.St} {H1 : Hp} {D : Addr} {Qd : Hp -> Prop} (Pv : Nat -> Hp -> Prop) (h0 : Pv 0 (upd H1 D (.lst []))) (hl : ∀ i H, i <= xs.length -> Pv i H -> SqL K H a xs)
    (hs : ∀ i x T H, xs[i]? = some x -> H T = none -> Pv i H -> g (.ref T) (wipe σ vs) (upd H T (.tup [.int (i : Nat), x])) fun σ2 H2 => wipe σ2 vs = wipe σ vs /\ tt σ2 H2 fun b H3 =>
      if b = true then te σ2 H3 fun y H4 => ∃ acc, H4 D = some (.lst acc) /\ acc.length < sizeLine /\ Pv (i + 1) (upd H4 D (.lst (acc ++ [y]))) else Pv (i + 1) H3) (hd : ∀ H, Pv xs.length H -> Qd H) :
    ∃ W : Nat -> Nat -> Hp -> Prop, (∃ m, W 0 m (upd H1 D (.lst []))) /\ ∀ i m H, W i m H ->
      ((Ite K a).stop i H /\ Qd H) \/ ((Ite K a).go i H /\ ∃ Nx : Hp -> Prop, (∀ H', Nx H' -> ∃ m', m' < m /\ W (i + 1) m' H') /\ ∀ x H', (Ite K a).yld i H x H' -> g x (wipe σ vs) H' fun σ2 H2 => wipe σ2 vs = wipe σ vs /\ tt σ2 H2 fun b H3 =>
        if b = true then te σ2 H3 fun y H4 => ∃ acc, H4 D = some (.lst acc) /\ acc.length < sizeLine /\ Nx (upd H4 D (.lst (acc ++ [y]))) else Nx H3) := by
  refine ⟨fun i m H => m = xs.length - i /\ i <= xs.length /\ Pv i H, ⟨xs.length, by simp, Nat.zero_le _, h0⟩, ?_⟩;rintro i m H ⟨rfl, hi, p⟩;have q := hl i H hi p;by_cases hlt : i < xs.length
  · refine .inr ⟨⟨xs, xs[i], q, by simp [hlt]⟩, Pv (i + 1), fun H' p' => ⟨xs.length - (i + 1), by omega, rfl, hlt, p'⟩, fun x H' y => ?_⟩;obtain ⟨T, u, e, hT, e2, hu⟩ := y;subst e e2;exact hs i u T H (hu xs q) hT p
  · have e : i = xs.length := by omega
    subst e;exact .inl ⟨⟨xs, q, Nat.le_refl _⟩, hd H p⟩
def tf (a b c d : V) : List (Str × V) := [("header", a), ("claims", b), ("signature", c), ("signed", d)]
structure Txt7 (K : PySem.W.Frag) (mg : Str -> Option Value) (CT : Addr) : Prop where
  cl : Cls K CT
  nH : Y4 K CT "header"
  nC : Y4 K CT "claims"
  nS : Y4 K CT "signature"
  nD : Y4 K CT "signed"
  mT : mg "Token" = some (.ref CT)
  pt : ∃ t, mg "POINT" = some (.int 46 t)
  en : mg "enumerate" = none
def spTInit (CT : Addr) : Sp := fun vs H Q _ => ∃ (p dx : Addr) (a b c d : V), vs = [.ref p, a, b, c, d] /\ H p = some (.ins CT dx []) /\ ∀ H', But p H H' -> H' p = some (.ins CT dx (tf a b c d)) -> Q .non H'
def spToken (K : PySem.W.Frag) (CT : Addr) : Sp := fun vs H Q _ => ∃ (a : Addr) (t : List Nat), vs = [.ref a] /\ SqL K H a (nv t) /\ t.length <= 100000 /\ (∀ x ∈ t, x < 256) /\ (tokenOf t = none -> ∀ H', Same H H' -> Q .non H') /\
  (∀ x, tokenOf t = some x -> ∀ p dx l1 l2 l3 l4 H', Same H H' -> H' p = some (.ins CT dx (tf (.ref l1) (.ref l2) (.ref l3) (.ref l4))) -> H' l1 = some (.lst (nv x.header)) -> H' l2 = some (.lst (nv x.claims)) -> H' l3 = some (.lst (nv x.signature)) -> H' l4 = some (.lst (nv x.signed)) -> Q (.ref p) H')
def OptL (v : V) (u : Option (List Nat)) (H : Hp) : Prop := match u with
  | none => v = .non
  | some d => ∃ l, v = .ref l /\ H l = some (.lst (nv d))
theorem OptL.mono {v : V} {u : Option (List Nat)} {H H' : Hp} (o : OptL v u H) (s : Same H H') : OptL v u H' := by
  cases u with
  | none => exact o
  | some d => obtain ⟨l, e, k⟩ := o; exact ⟨l, e, s _ _ k⟩
def spFromO (K : PySem.W.Frag) : Sp := fun vs H Q _ => ∃ (a : Addr) (t : List Nat), vs = [.ref a] /\ SqL K H a (nv t) /\ t.length <= 100000 /\ (∀ x ∈ t, x < 256) /\ ∀ v H', Same H H' -> OptL v (unpacked t) H' -> Q v H'
theorem fn_imp {P : Program} {w : World} {K : PySem.W.Frag} {mg : Str -> Option Value} {base : Heap} {CX : CXT} {k : Nat} {f : Addr} {fd : FuncData} {ps : List Str} {sp sp' : Sp} (F : FnOk P w K mg base CX k f fd ps sp) (i : ∀ vs H Q E, sp' vs H Q E -> sp vs H Q E) : FnOk P w K mg base CX k f fd ps sp' := by
  obtain ⟨x, y⟩ := F;exact ⟨fun vs H Q E h => x vs H Q E (i vs H Q E h), fun a1 a2 a3 a4 a5 a6 a7 a8 a9 b1 b2 b3 b4 h => y a1 a2 a3 a4 a5 a6 a7 a8 a9 b1 b2 b3 b4 (i _ _ _ _ h)⟩
theorem Callee.imp {P : Program} {w : World} {K : PySem.W.Frag} {mg : Str -> Option Value} {base : Heap} {CX : CXT} {x : Str} {k : Nat} {ps : List Str} {sp sp' : Sp} (c : Callee P w K mg base CX x k ps sp) (i : ∀ vs H Q E, sp' vs H Q E -> sp vs H Q E) : Callee P w K mg base CX x k ps sp' :=
  let ⟨f, fd, F, hm, b, m⟩ := c.ex
  ⟨f, fd, fn_imp F i, hm, b, m⟩
theorem from_opt {P : Program} {w : World} {K : PySem.W.Frag} {mg : Str -> Option Value} {base : Heap} (c : Callee P w K mg base CX0 "from_signs" 2 ["signs"] (B6.spFrom K)) : Callee P w K mg base CX0 "from_signs" 2 ["signs"] (spFromO K) :=
  c.imp fun vs H Q E ⟨a, t, e, hS, hl, hb, q⟩ => ⟨a, t, e, hS, by omega, hb, fun e H' s => q .non H' s (by rw [e]; rfl), fun d e p H' s _ k => q (.ref p) H' s (by rw [e]; exact ⟨p, rfl, k⟩)⟩
section
variable {P : Program} {w : World} {K : PySem.W.Frag} {mg : Str -> Option Value} {base : Heap} {CT : Addr}
theorem scTI : z7 ["self", "header", "claims", "signature", "signed"] ["self", "header", "claims", "signature", "signed"] (y3 (inClass (top 68) 0)) := ⟨rfl, rfl, rfl, by decide +kernel, rfl, by decide +kernel, by decide +kernel⟩
theorem ok_tinit {f : Addr} {fd : FuncData} (F : Fun K "__init__" "Token.__init__" (inClass (top 68) 0) f fd) (T7 : Txt7 K mg CT) : FnOk P w K mg base CX0 1 f fd ["self", "header", "claims", "signature", "signed"] (spTInit CT) := by
  refine F.ok scTI (fun vs H Q E h => ?_) (fun cdv A outer s H vs Q E hr h => ?_)
  · obtain ⟨p, dx, a, b, c, d, rfl, _⟩ := h;rfl
  · obtain ⟨p, dx, a, b, c, d, rfl, hH, q⟩ := h;refine ⟨_, w4 (Y2 (pv 0) (pv 1) rfl) (w4 (Y2 (pv 0) (pv 2) rfl) (w4 (Y2 (pv 0) (pv 3) rfl) (w8 (Y2 (pv 0) (pv 4) rfl)))), ?_⟩;have l1 : (putF "header" a []).length <= 1 := len_putF (Nat.le_refl 0);have l2 : (putF "claims" b (putF "header" a [])).length <= 2 := len_putF l1;have l3 : (putF "signature" c (putF "claims" b (putF "header" a []))).length <= 3 := len_putF l2;refine ⟨_, rfl, _, rfl, p, CT, dx, _, rfl, hH, T7.cl, T7.nH, (by show 0 < 1000; decide), _, rfl, _, rfl, p, CT, dx, _, rfl, y1, T7.cl, T7.nC, (by omega), _, rfl, _, rfl, p, CT, dx, _, rfl, y1, T7.cl, T7.nS, (by omega), _, rfl, _, rfl, p, CT, dx, _, rfl, y1, T7.cl, T7.nD, (by omega), ?_⟩;refine q _ (fun b o e n => by rw [y9 n, y9 n, y9 n, y9 n]; exact e) ?_;rw [y1, put4 (by decide +kernel) (by decide +kernel) (by decide +kernel) (by decide +kernel) (by decide +kernel) (by decide +kernel)];rfl
theorem same_slice {H H1 : Hp} {p : Addr} {o : HO} (s : Same H H1) (hp : H1 p = none) : Same H (upd H1 p o) := s.trans (z8 hp o)
theorem cut_to {t : List Nat} {j : Nat} (h : j <= t.length) : cutV (nv t) none (some ((j : Nat) : Int)) = nv (t.take j) := by
  unfold cutV;rw [HT.sIx_nat, j5, Nat.min_eq_left h];unfold nv;show ((t.map _).drop 0).take (j - 0) = _;rw [List.drop_zero, Nat.sub_zero, List.map_take]
theorem cut_from {t : List Nat} {i : Nat} (h : i <= t.length) : cutV (nv t) (some ((i : Nat) : Int)) none = nv (t.drop i) := by
  unfold cutV;rw [HT.sIx_nat, j5, Nat.min_eq_left h];unfold nv;show ((t.map _).drop i).take (t.length - i) = _;rw [<- List.map_drop, List.take_of_length_le (by rw [List.length_map, List.length_drop]; exact Nat.le_refl _)]
abbrev nT : List Str := ["text", "points", "header", "claims", "signature", "place", "byte"]
theorem scT : z7 nT ["text"] (y3 (top 69)) := ⟨rfl, rfl, rfl, by decide +kernel, rfl, by decide +kernel, by decide +kernel⟩
theorem ok_token {f fI : Addr} {fd fdI : FuncData} (F : Fun K "read_token" "read_token" (top 69) f fd) (T7 : Txt7 K mg CT) (hlen : mg "len" = none) (CF0 : Callee P w K mg base CX0 "from_signs" 2 ["signs"] (B6.spFrom K)) (M : Mk K CT fI) (GI : FnOk P w K mg base CX0 1 fI fdI ["self", "header", "claims", "signature", "signed"] (spTInit CT)) (bI : Binds K fdI ["self", "header", "claims", "signature", "signed"] []) :
    FnOk P w K mg base CX0 3 f fd ["text"] (spToken K CT) := by
  refine F.ok scT (fun vs H Q E h => ?_) (fun cdv A outer s H vs Q E hr h => ?_)
  · obtain ⟨a, t, rfl, _⟩ := h;rfl
  · obtain ⟨a, t, rfl, hS, hl, hb, q1, q2⟩ := h;have lz : sizeLine = 16777216 := rfl;have CF := from_opt CF0
    refine ⟨_, w4 (ps_setLc (i := 1) (own := [("place", 5), ("byte", 6)]) (g := gTup K 2 (gCons (gName 5) (gCons (gName 6) gNil))) rfl scT.nd rfl rfl (sw_true rfl rfl rfl rfl) (pi_enum rfl T7.en (w6 (pv 0) w9)) (Y8 (by show blkC nT (y3 (top 69)) _ [("place", 5), ("byte", 6)] = true; decide +kernel))
        (fun s H C cl fp => (pg_tup (n := 2) rfl (W3 (k9 (i := 5) scT.nd rfl (Or.inl rfl) (Or.inr rfl)) (W3 (k9 (i := 6) scT.nd rfl (Or.inl rfl) (Or.inr rfl)) pgs_nil)))) (fun s H C cl fp => pts_one (j8 op_eq (pv 6) (x8 rfl T7.pt) (j9 _))) (fun s H C cl fp => pv 5))
      (w4 (j7 (j8 op_ne (Z8 rfl hlen (pv 1)) y2 (j9 _)) (w8 (y6 Z7)) z0)
      (w4 (z6 (i := 2) scT.nd rfl (Or.inl rfl) (j6 CF j0 hr rfl (w6 (Y7 sl_list (pv 0) po_none (Q5 (Q8 v8 (pv 1) y2 (fun _ _ => rfl)))) w9)))
      (w4 (z6 (i := 3) scT.nd rfl (Or.inl rfl) (j6 CF j0 hr rfl (w6 (Y7 sl_list (pv 0) (Q5 (y8 Q2 (Q8 v8 (pv 1) y2 (fun _ _ => rfl)) y2)) (Q5 (Q8 v8 (pv 1) y2 (fun _ _ => rfl)))) w9)))
      (w4 (z6 (i := 4) scT.nd rfl (Or.inl rfl) (j6 CF j0 hr rfl (w6 (Y7 sl_list (pv 0) (Q5 (y8 Q2 (Q8 v8 (pv 1) y2 (fun _ _ => rfl)) y2)) po_none) w9)))
      (w4 (j7 (PW.pt (pw_or (W2 (Z1 (pv 2))) (pw_or (W2 (Z1 (pv 3))) (pw_or1 (W2 (Z1 (pv 4))))))) (w8 (y6 Z7)) z0)
      (w8 (y6 (pe_make M GI hr rfl T7.mT bI .nil j0 (w6 (pv 2) (w6 (pv 3) (w6 (pv 4) (w6 (Y7 sl_list (pv 0) po_none (Q5 (Q8 v8 (pv 1) y2 (fun _ _ => rfl)))) w9)))))))))))), ?_⟩
    refine ⟨_, rfl, a, _, rfl, hS, fun D hD => ?_⟩;refine lc_enum (K := K) (xs := nv t) (fun i H' => Same H H' /\ H' D = some (.lst (nv (MT.pts t i)))) ⟨z8 hD _, y1⟩ (fun i H' _ z => z.1.seq hS) ?_ ?_
    · rintro i x T' H' hx hT' ⟨s1, k1⟩;obtain ⟨m, hm, rfl⟩ := nv_ex hx;have ne : D ≠ T' := y4 k1 hT';have s2 : Same H (upd H' T' (.tup [.int (i : Nat), .int (m : Int)])) := s1.trans (z8 hT' _);have k2 : (upd H' T' (.tup [.int (i : Nat), .int (m : Int)])) D = some (.lst (nv (MT.pts t i))) := by rw [y9 ne]; exact k1
      refine ⟨T', _, rfl, SqT.of y1, rfl, _, _, rfl, _, _, rfl, rfl, rfl, _, rfl, rfl, _, rfl, ?_⟩;have es := MT.pts_succ t i;have hlt := (List.getElem?_eq_some_iff.mp hm).1;refine ite2 (fun e => ?_) (fun e => ?_)
      · have e' : m = 46 := by have := V.int.inj (of_decide_eq_true e); omega
        rw [hm, e', if_pos rfl] at es;refine ⟨_, rfl, _, k2, ?_, Q3 s2 hD _, ?_⟩
        · rw [j5];have := MT.pts_le t i;omega
        · rw [y1, es, Y3]; rfl
      · have e' : ¬ m = 46 := fun z => e (decide_eq_true (by rw [z]; rfl))
        rw [hm, if_neg (fun z => e' (Option.some.inj z)), List.append_nil] at es;exact ⟨s2, by rw [es]; exact k2⟩
    · rintro H1 ⟨s1, k1⟩;rw [j5] at k1;refine ⟨_, rfl, D, _, rfl, .inl (SqL.of k1), rfl, _, rfl, ?_⟩;by_cases h2 : (MT.pts t t.length).length = 2
      · obtain ⟨i, j, hij⟩ : ∃ i j, MT.pts t t.length = [i, j] := by
          match MT.pts t t.length, h2 with
          | [i, j], _ => exact ⟨i, j, rfl⟩
        rw [hij] at k1;obtain ⟨g1, g2, _, _⟩ := MT.token_two hij;have ti := MT.token_is hij;have e0 : decide (V.int (((nv (MT.pts t t.length)).length : Nat) : Int) = V.int 2) = true := decide_eq_true (by rw [j5, h2]; rfl);show if (!decide (V.int (((nv (MT.pts t t.length)).length : Nat) : Int) = V.int 2)) = true then _ else _
        rw [e0];refine iteF ?_;have at0 : atI (nv [i, j]) 0 = some (.int (i : Int)) := at_of (j := 0) rfl rfl;have at1 : atI (nv [i, j]) 1 = some (.int (j : Int)) := at_of (j := 1) rfl rfl;have sub : ∀ l : List Nat, (∀ x ∈ l, x ∈ t) -> ∀ x ∈ l, x < 256 := fun l h x hx => hb x (h x hx)
        refine ⟨_, rfl, _, rfl, D, _, _, _, rfl, rfl, SqL.of k1, at0, _, rfl, a, _, rfl, s1.seq hS, fun l1 hl1 => ?_⟩;have s2 := same_slice (o := .lst (cutV (nv t) none (some ((i : Nat) : Int)))) s1 hl1;refine ⟨l1, t.take i, rfl, SqL.of (by rw [y1, cut_to (by omega)]), (by rw [List.length_take]; omega), (sub _ fun x hx => List.mem_of_mem_take hx), fun v2 H2 t2 o2 => ?_⟩;have s3 := s2.trans t2;have k3 : H2 D = some (.lst (nv [i, j])) := t2 _ _ (by rw [y9 (y4 k1 hl1)]; exact k1);refine ⟨_, rfl, _, rfl, D, _, _, _, rfl, rfl, SqL.of k3, at0, i, 1, rfl, rfl, _, rfl, _, rfl, D, _, _, _, rfl, rfl, SqL.of k3, at1, _, rfl, a, _, rfl, s3.seq hS, fun l2 hl2 => ?_⟩;have s4 := same_slice (o := .lst (cutV (nv t) (some ((i + 1 : Nat) : Int)) (some ((j : Nat) : Int)))) s3 hl2;refine ⟨l2, (t.drop (i + 1)).take (j - (i + 1)), rfl, SqL.of (by rw [y1, cut_nat (i := i + 1) (j := j) (by omega) (by omega)]), (by rw [List.length_take, List.length_drop]; omega), (sub _ fun x hx => List.mem_of_mem_drop (List.mem_of_mem_take hx)), fun v3 H3 t3 o3 => ?_⟩;have s5 := s4.trans t3;have k4 : H3 D = some (.lst (nv [i, j])) := t3 _ _ (by rw [y9 (y4 k3 hl2)]; exact k3);refine ⟨_, rfl, _, rfl, D, _, _, _, rfl, rfl, SqL.of k4, at1, j, 1, rfl, rfl, _, rfl, a, _, rfl, s5.seq hS, fun l3 hl3 => ?_⟩;have s6 := same_slice (o := .lst (cutV (nv t) (some ((j + 1 : Nat) : Int)) none)) s5 hl3;refine ⟨l3, t.drop (j + 1), rfl, SqL.of (by rw [y1, cut_from (i := j + 1) (by omega)]), (by rw [List.length_drop]; omega), (sub _ fun x hx => List.mem_of_mem_drop hx), fun v4 H4 t4 o4 => ?_⟩;have s7 := s6.trans t4;have k5 : H4 D = some (.lst (nv [i, j])) := t4 _ _ (by rw [y9 (y4 k4 hl3)]; exact k4);have o3 := o3.mono ((z8 hl3 _).trans t4);have o2 := o2.mono ((z8 hl2 _).trans (t3.trans ((z8 hl3 _).trans t4)));refine ⟨_, rfl, _, rfl, ?_⟩;cases u1 : unpacked (t.take i) with
        | none =>
          rw [u1] at o2 ti;cases (show v2 = .non from o2);exact iteT (iteT (q1 ti H4 s7))
        | some d1 =>
          rw [u1] at o2 ti;obtain ⟨p1, rfl, kp1⟩ := o2;refine iteF ?_;refine ⟨_, rfl, _, rfl, ?_⟩;cases u2 : unpacked ((t.drop (i + 1)).take (j - (i + 1))) with
          | none =>
            rw [u2] at o3 ti;cases (show v3 = .non from o3);exact iteT (iteT (q1 ti H4 s7))
          | some d2 =>
            rw [u2] at o3 ti;obtain ⟨p2, rfl, kp2⟩ := o3;refine iteF ?_;refine ⟨_, rfl, _, rfl, ?_⟩;cases u3 : unpacked (t.drop (j + 1)) with
            | none =>
              rw [u3] at o4 ti;cases (show v4 = .non from o4);exact iteT (q1 ti H4 s7)
            | some d3 =>
              rw [u3] at o4 ti;obtain ⟨p3, rfl, kp3⟩ := o4;refine iteF ?_;refine ⟨_, rfl, _, rfl, _, rfl, _, rfl, _, rfl, D, _, _, _, rfl, rfl, SqL.of k5, at1, _, rfl, a, _, rfl, s7.seq hS, fun l4 hl4 => ?_⟩;intro x dx hx hdx ne;have s8 := z8 (o := .lst (cutV (nv t) none (some ((j : Nat) : Int)))) hl4;refine ⟨x, dx, _, _, _, _, rfl, y1, fun H' b' h' => ⟨rfl, ?_⟩⟩;have s9 : Same (upd H4 l4 (.lst (cutV (nv t) none (some ((j : Nat) : Int))))) H' := fun b o e => b' b o (by rw [y9 (y4 e hx), y9 (y4 e hdx)]; exact e) (y4 e hx)
              refine q2 _ ti x dx p1 p2 p3 l4 H' (s7.trans (s8.trans s9)) h' ((s8.trans s9) _ _ kp1) ((s8.trans s9) _ _ kp2) ((s8.trans s9) _ _ kp3) (s9 _ _ ?_);rw [y1, cut_to (by omega)]
      · have e0 : decide (V.int (((nv (MT.pts t t.length)).length : Nat) : Int) = V.int 2) = false := decide_eq_false fun z => h2 (by have := V.int.inj z; rw [j5] at this; omega)
        show if (!decide (V.int (((nv (MT.pts t t.length)).length : Nat) : Int) = V.int 2)) = true then _ else _
        rw [e0];exact iteT (q1 (MT.token_no h2) H1 s1)
theorem unp_len {t : List Nat} {x : Sv20.Token} (h : tokenOf t = some x) : x.header.length <= t.length /\ x.claims.length <= t.length /\ x.signed.length <= t.length /\ (∀ y ∈ x.header, y < 256) /\ (∀ y ∈ x.claims, y < 256) /\ (∀ y ∈ x.signed, y ∈ t) := by
  by_cases h2 : (MT.pts t t.length).length = 2
  · obtain ⟨i, j, hij⟩ : ∃ i j, MT.pts t t.length = [i, j] := by
      match MT.pts t t.length, h2 with
      | [i, j], _ => exact ⟨i, j, rfl⟩
    rw [MT.token_is hij] at h;cases u1 : unpacked (t.take i) with
    | none => rw [u1] at h; cases h
    | some d1 =>
      cases u2 : unpacked ((t.drop (i + 1)).take (j - (i + 1))) with
      | none => rw [u1, u2] at h; cases h
      | some d2 =>
        cases u3 : unpacked (t.drop (j + 1)) with
        | none => rw [u1, u2, u3] at h; cases h
        | some d3 =>
          rw [u1, u2, u3] at h;have e := (Option.some.inj h).symm;subst e;have a1 := B6.unpacked_in u1;have a2 := B6.unpacked_in u2;rw [List.length_take] at a1;rw [List.length_take, List.length_drop] at a2;refine ⟨?_, ?_, ?_, a1.2, a2.2, fun y hy => List.mem_of_mem_take hy⟩
          · show d1.length <= _;omega
          · show d2.length <= _;omega
          · show (t.take j).length <= _;rw [List.length_take];omega
  · rw [MT.token_no h2] at h; cases h
end
end J
namespace J
open PySem PySem.Spec PyProof.Rows L2 G Ex
open Sv20 (Json isString wholeOf strings ifThere claimsOk headerOk stringOf named ascii keysOf tokenOf mac)
def OptS (K : PySem.W.Frag) (v : V) (u : Option (List Nat)) (H : Hp) : Prop := match u with
  | none => v = .non
  | some d => ∃ l, v = .ref l /\ SqL K H l (nv d)
theorem OptS.mono {K : PySem.W.Frag} {v : V} {u : Option (List Nat)} {H H' : Hp} (o : OptS K v u H) (s : Same H H') : OptS K v u H' := by
  cases u with
  | none => exact o
  | some d => obtain ⟨l, e, k⟩ := o; exact ⟨l, e, s.seq k⟩
inductive Q4 (p : Addr) (H : Hp) : List V -> List (List Nat × List Nat) -> Prop
  | nil : Q4 p H [] []
  | cons {T a b : Addr} {r : List Nat × List Nat} {vs : List V} {rs : List (List Nat × List Nat)} : T ≠ p -> a ≠ p -> b ≠ p -> H T = some (.tup [.ref a, .ref b]) -> H a = some (.lst (nv r.1)) -> H b = some (.lst (nv r.2)) -> Q4 p H vs rs -> Q4 p H (.ref T :: vs) (r :: rs)
theorem Q4.mono {p : Addr} {H H' : Hp} (s : ∀ a o, a ≠ p -> H a = some o -> H' a = some o) : ∀ {vs : List V} {rs : List (List Nat × List Nat)}, Q4 p H vs rs -> Q4 p H' vs rs
  | _, _, .nil => .nil
  | _, _, .cons n1 n2 n3 h1 h2 h3 t => .cons n1 n2 n3 (s _ _ n1 h1) (s _ _ n2 h2) (s _ _ n3 h3) (t.mono s)
theorem Q4.snoc {p : Addr} {H : Hp} {T a b : Addr} {r : List Nat × List Nat} (n1 : T ≠ p) (n2 : a ≠ p) (n3 : b ≠ p) (h1 : H T = some (.tup [.ref a, .ref b])) (h2 : H a = some (.lst (nv r.1))) (h3 : H b = some (.lst (nv r.2))) : ∀ {vs : List V} {rs : List (List Nat × List Nat)}, Q4 p H vs rs -> Q4 p H (vs ++ [.ref T]) (rs ++ [r])
  | _, _, .nil => .cons n1 n2 n3 h1 h2 h3 .nil
  | _, _, .cons m1 m2 m3 g1 g2 g3 t => .cons m1 m2 m3 g1 g2 g3 (t.snoc n1 n2 n3 h1 h2 h3)
theorem Q4.len {p : Addr} {H : Hp} : ∀ {vs : List V} {rs : List (List Nat × List Nat)}, Q4 p H vs rs -> vs.length = rs.length
  | _, _, .nil => rfl
  | _, _, .cons _ _ _ _ _ _ t => by rw [List.length_cons, List.length_cons, t.len]
theorem Q4.get {p : Addr} {H : Hp} : ∀ {vs : List V} {rs : List (List Nat × List Nat)} {i : Nat} {v : V}, Q4 p H vs rs -> vs[i]? = some v -> ∃ T a b r, v = .ref T /\ rs[i]? = some r /\ H T = some (.tup [.ref a, .ref b]) /\ H a = some (.lst (nv r.1)) /\ H b = some (.lst (nv r.2))
  | _, _, i, _, .nil, e => by cases e
  | _, _, 0, _, .cons _ _ _ h1 h2 h3 _, e => by cases e; exact ⟨_, _, _, _, rfl, rfl, h1, h2, h3⟩
  | _, _, i + 1, _, .cons _ _ _ _ _ _ t, e => Q4.get (i := i) t e
section
variable (K : PySem.W.Frag) (CV CT : Addr)
def spFault : Sp := fun vs H Q _ => ∃ (d : Addr) (now slack : Nat) (vi va : V) (iss aud : Option (List Nat)) (kvs : List (List Key × V)) (t : List Nat) (F : Addr -> Prop) (ms : List Mem), vs = [.ref d, .int (now : Int), .int (slack : Int), vi, va] /\ OptS K vi iss H /\ OptS K va aud H /\ H d = some (.dT kvs) /\ VMs CV t F H kvs ms /\ claimsOk ms = true /\ t.length <= 100000 /\
  ∀ H', Q (.int ((MG.cf ms now slack iss aud : Nat) : Int)) H'
def spRows : Sp := fun vs H Q _ => ∃ (a : Addr) (t : List Nat), vs = [.ref a] /\ SqL K H a (nv t) /\ t.length <= 65536 /\ (keysOf (t.length + 1) t = none -> ∀ H', Q .non H') /\ (∀ rs, keysOf (t.length + 1) t = some rs -> ∀ p us H', Same H H' -> H' p = some (.lst us) -> Q4 p H' us rs -> Q (.ref p) H')
def spKey : Sp := fun vs H Q _ => ∃ (p a : Addr) (us : List V) (rs : List (List Nat × List Nat)) (nm : List Nat), vs = [.ref p, .ref a] /\ H p = some (.lst us) /\ Q4 p H us rs /\ SqL K H a (nv nm) /\ (rs.lookup nm = none -> Q .non H) /\ (∀ k, rs.lookup nm = some k -> ∀ b, H b = some (.lst (nv k)) -> Q (.ref b) H)
def spFirst : Sp := fun vs H Q _ => ∃ (a p : Addr) (now slack : Nat) (vi va : V) (iss aud : Option (List Nat)) (t : List Nat) (us : List V) (rs : List (List Nat × List Nat)), vs = [.ref a, .ref p, .int (now : Int), .int (slack : Int), vi, va] /\ SqL K H a (nv t) /\ t.length <= 100000 /\ (∀ x ∈ t, x < 256) /\ H p = some (.lst us) /\ Q4 p H us rs /\ (∀ r ∈ rs, r.2.length <= 64 /\ ∀ x ∈ r.2, x < 256) /\ OptS K vi iss H /\ OptS K va aud H /\
  ∀ H', Q (.int ((Sv20.checked t rs now slack iss aud : Nat) : Int)) H'
def spCheck : Sp := fun vs H Q _ => ∃ (now slack i j : Int) (a b c d : Addr) (ts ks is js : List Int), vs = [.int now, .int slack, .int i, .int j, .ref a, .ref b, .ref c, .ref d] /\ 0 <= now /\ 0 <= slack /\ SqL K H a (ts.map V.int) /\ SqL K H b (ks.map V.int) /\ SqL K H c (is.map V.int) /\ SqL K H d (js.map V.int) /\ ts.length <= 100000 /\ ks.length <= 65536 /\ (∀ x ∈ ts, 0 <= x /\ x <= 255) /\ (∀ x ∈ ks, 0 <= x /\ x <= 255) /\ (∀ x ∈ is, 0 <= x /\ x <= 255) /\ (∀ x ∈ js, 0 <= x /\ x <= 255) /\
  ∀ (H' : Hp) (p : Addr), H' p = some (.lst ((PySv20.tk_check now slack i j ts ks is js).map V.int)) -> Q (.ref p) H'
end
def spWl : Sp := fun vs H Q _ => ∃ z : Int, vs = [.int z] /\ Q (.bl (decide (-1 <= z /\ z <= 1024))) H
def spWanted : Sp := fun vs H Q _ => ∃ (z : Int) (v : V), vs = [.int z, v] /\ Q (if z = -1 then .non else v) H
structure TxtF (mg : Str -> Option Value) : Prop where
  g0 : ∃ t, mg "NOTHING_WRONG" = some (.int 0 t)
  g1 : ∃ t, mg "NO_TOKEN" = some (.int 1 t)
  g2 : ∃ t, mg "HEADER_NOT_RIGHT" = some (.int 2 t)
  g3 : ∃ t, mg "NO_KEY" = some (.int 3 t)
  g4 : ∃ t, mg "OTHER_SIGNATURE" = some (.int 4 t)
  g5 : ∃ t, mg "CLAIMS_NOT_RIGHT" = some (.int 5 t)
  g6 : ∃ t, mg "TOO_EARLY" = some (.int 6 t)
  g7 : ∃ t, mg "TOO_LATE" = some (.int 7 t)
  g8 : ∃ t, mg "OTHER_ISSUER" = some (.int 8 t)
  g9 : ∃ t, mg "OTHER_AUDIENCE" = some (.int 9 t)
section
variable {P : Program} {w : World} {K : PySem.W.Frag} {mg : Str -> Option Value} {base : Heap} {CV CT aK : Addr}
theorem scCf : z7 ["claims", "now", "slack", "iss", "aud"] ["claims", "now", "slack", "iss", "aud"] (y3 (top 81)) := ⟨rfl, rfl, rfl, by decide +kernel, rfl, by decide +kernel, by decide +kernel⟩
theorem ok_fault {f : Addr} {fd : FuncData} (F : Fun K "claims_fault" "claims_fault" (top 81) f fd) (TF : TxtF mg) (CS : Callee P w K mg base CX0 "starts_after" 3 ["claims", "now", "slack"] (spStarts CV)) (CE : Callee P w K mg base CX0 "ends_by" 3 ["claims", "now", "slack"] (spEnds CV)) (CFr : Callee P w K mg base CX0 "is_from" 3 ["claims", "iss"] (spFromI K CV)) (CFo : Callee P w K mg base CX0 "is_for" 3 ["claims", "aud"] (spForA K CV)) : FnOk P w K mg base CX0 4 f fd ["claims", "now", "slack", "iss", "aud"] (spFault K CV) := by
  refine F.ok scCf (fun vs H Q E h => ?_) (fun cdv A outer s H vs Q E hr h => ?_)
  · obtain ⟨d, now, slack, vi, va, iss, aud, kvs, t, F, ms, rfl, _⟩ := h;rfl
  · obtain ⟨d, now, slack, vi, va, iss, aud, kvs, t, F, ms, rfl, oi, oa, hd, hm, ho, hl, q⟩ := h
    refine ⟨_, w4 (j7 (x5 (j6 CS j0 hr rfl (w6 (pv 0) (w6 (pv 1) (w6 (pv 2) w9))))) (w8 (y6 (x8 rfl TF.g6))) z0)
      (w4 (j7 (x5 (j6 CE j0 hr rfl (w6 (pv 0) (w6 (pv 1) (w6 (pv 2) w9))))) (w8 (y6 (x8 rfl TF.g7))) z0)
      (w4 (j7 (PW.pt (pw_and (W2 (pc_notN (pv 3))) (pw_and1 (Q9 (x5 (j6 CFr j0 hr rfl (w6 (pv 0) (w6 (pv 3) w9)))))))) (w8 (y6 (x8 rfl TF.g8))) z0)
      (w4 (j7 (PW.pt (pw_and (W2 (pc_notN (pv 4))) (pw_and1 (Q9 (x5 (j6 CFo j0 hr rfl (w6 (pv 0) (w6 (pv 4) w9)))))))) (w8 (y6 (x8 rfl TF.g9))) z0)
      (w8 (y6 (x8 rfl TF.g0)))))), ?_⟩
    unfold MG.cf at q;refine ⟨_, rfl, _, rfl, _, rfl, d, now, slack, kvs, t, F, ms, rfl, hd, hm, ho, fun H1 s1 => ?_⟩;refine ⟨_, rfl, ?_⟩;refine ite2b (fun e1 => ?_) (fun e1 => ?_)
    · rw [if_pos e1] at q;exact q H1
    rw [if_neg (by rw [e1]; decide)] at q;refine ⟨_, rfl, _, rfl, _, rfl, d, now, slack, kvs, t, F, ms, rfl, s1 _ _ hd, hm.same s1, ho, fun H2 s2 => ?_⟩;have s12 := s1.trans s2;refine ⟨_, rfl, ?_⟩;refine ite2b (fun e2 => ?_) (fun e2 => ?_)
    · rw [if_pos e2] at q;exact q H2
    rw [if_neg (by rw [e2]; decide)] at q
    have aud_ : ∀ (H3 : Hp), Same H H3 -> iss.any (fun i => stringOf ms "iss" != some i) = false -> tSeq (tIfS (tAnd (tB (tNotN (tVar 4))) (tNot (tB (tCall (spForA K CV) [] E0 (Q0 (tVar 0) (Q0 (tVar 4) tNil)))))) (tRet (tC (.int 9))) tNext) (tRet (tC (.int 0))) { nx := fun _ H' => Q .non H', rt := Q } [some (.ref d), some (.int (now : Int)), some (.int (slack : Int)), some vi, some va] H3 := by
      intro H3 s3 e3;rw [if_neg (by rw [e3]; decide)] at q;refine ⟨_, rfl, _, rfl, ?_⟩;cases aud with
      | none =>
        cases (show va = .non from oa);exact iteF (iteF (q H3))
      | some l =>
        obtain ⟨al, rfl, hS⟩ := oa;refine iteT ?_;refine ⟨_, rfl, _, rfl, d, al, l, kvs, t, F, ms, rfl, s3.seq hS, s3 _ _ hd, hm.same s3, ho, hl, fun H4 s4 => ?_⟩;refine ⟨_, rfl, ?_⟩;have q : ∀ H', Q (.int ((if (!(((named ms (ascii "aud")).bind fun y => strings y.2).getD []).contains l) = true then 9 else 0 : Nat) : Int)) H' := q;cases hc : (((named ms (ascii "aud")).bind fun y => strings y.2).getD []).contains l with
        | true =>
          rw [hc] at q;exact iteF (q H4)
        | false =>
          rw [hc] at q;exact iteT (q H4)
    refine ⟨_, rfl, _, rfl, ?_⟩;cases iss with
    | none =>
      cases (show vi = .non from oi);exact iteF (iteF (aud_ H2 s12 rfl))
    | some l =>
      obtain ⟨al, rfl, hS⟩ := oi;refine iteT ?_;refine ⟨_, rfl, _, rfl, d, al, l, kvs, t, F, ms, rfl, s12.seq hS, s12 _ _ hd, hm.same s12, ho, fun H4 s4 => ?_⟩;refine ⟨_, rfl, ?_⟩;cases hc : (stringOf ms "iss" == some l) with
      | true =>
        refine iteF (aud_ H4 (s12.trans s4) ?_);show (!(stringOf ms "iss" == some l)) = false;rw [hc]; rfl
      | false =>
        refine iteT ?_
        have hb : (some l).any (fun i => stringOf ms "iss" != some i) = true := by
          show (!(stringOf ms "iss" == some l)) = true;rw [hc]; rfl
        rw [if_pos hb] at q;exact q H4
theorem scWl : z7 ["length"] ["length"] (y3 (top 88)) := ⟨rfl, rfl, rfl, by decide +kernel, rfl, by decide +kernel, by decide +kernel⟩
theorem ok_wl {f : Addr} {fd : FuncData} (F : Fun K "is_wanted_length" "is_wanted_length" (top 88) f fd) (gN : ∃ t, mg "NOT_WANTED" = some (.int (-1) t)) (gL : ∃ t, mg "LONGEST_WANTED" = some (.int 1024 t)) : FnOk P w K mg base CX0 1 f fd ["length"] spWl := by
  refine F.ok scWl (fun vs H Q E h => ?_) (fun cdv A outer s H vs Q E hr h => ?_)
  · obtain ⟨z, rfl, _⟩ := h;rfl
  · obtain ⟨z, rfl, q⟩ := h;refine ⟨_, w8 (y6 (pe_chain W4 W4 (x8 rfl gN) (pv 0) (x8 rfl gL))), ?_⟩;refine ⟨_, rfl, -1, z, rfl, rfl, _, rfl, ?_⟩;refine ite2 (fun e => ?_) (fun e => ?_)
    · have e' : (-1 : Int) <= z := of_decide_eq_true e;refine ⟨z, 1024, rfl, rfl, ?_⟩;have : decide (-1 <= z /\ z <= 1024) = decide (z <= 1024) := by by_cases y : z <= 1024 <;> simp [y, e']
      rw [this] at q;exact q
    · have e' : ¬ (-1 : Int) <= z := fun y => e (decide_eq_true y)
      have : decide (-1 <= z /\ z <= 1024) = false := decide_eq_false fun y => e' y.1
      rw [this] at q;exact q
theorem scWa : z7 ["length", "data"] ["length", "data"] (y3 (top 89)) := ⟨rfl, rfl, rfl, by decide +kernel, rfl, by decide +kernel, by decide +kernel⟩
theorem ok_wanted {f : Addr} {fd : FuncData} (F : Fun K "wanted" "wanted" (top 89) f fd) (gN : ∃ t, mg "NOT_WANTED" = some (.int (-1) t)) : FnOk P w K mg base CX0 1 f fd ["length", "data"] spWanted := by
  refine F.ok scWa (fun vs H Q E h => ?_) (fun cdv A outer s H vs Q E hr h => ?_)
  · obtain ⟨z, v, rfl, _⟩ := h;rfl
  · obtain ⟨z, v, rfl, q⟩ := h;refine ⟨_, w4 (j7 (j8 op_eq (pv 0) (x8 rfl gN) (j9 _)) (w8 (y6 Z7)) z0) (w8 (y6 (pv 1))), ?_⟩;refine ⟨_, rfl, rfl, _, rfl, ?_⟩;refine ite2 (fun e => ?_) (fun e => ?_)
    · have e' := V.int.inj (of_decide_eq_true e);rw [if_pos e'] at q;exact q
    · have e' : ¬ z = -1 := fun y => e (decide_eq_true (by rw [y]))
      rw [if_neg e'] at q;exact ⟨_, rfl, q⟩
theorem scKn : z7 ["rows", "name", "row_name", "key"] ["rows", "name"] (y3 (top 65)) := ⟨rfl, rfl, rfl, by decide +kernel, rfl, by decide +kernel, by decide +kernel⟩
theorem ok_keynamed {f : Addr} {fd : FuncData} (F : Fun K "key_named" "key_named" (top 65) f fd) : FnOk P w K mg base CX0 1 f fd ["rows", "name"] (spKey K) := by
  refine F.ok scKn (fun vs H Q E h => ?_) (fun cdv A outer s H vs Q E hr h => ?_)
  · obtain ⟨p, a, us, rs, nm, rfl, _⟩ := h;rfl
  · obtain ⟨p, a, us, rs, nm, rfl, hp, hR, hS, q1, q2⟩ := h;have hu : _ + 65 < cLine := hu64 hr
    refine ⟨_, w4 (ps_for PassesOwn.never rfl (pi_list (pv 0)) (pg_tup (n := 2) rfl (W3 (k9 (i := 2) scKn.nd rfl (Or.inl rfl)) (W3 (k9 (i := 3) scKn.nd rfl (Or.inl rfl)) pgs_nil)))
        (w8 (j7 (j8 (op_eqB (Nat.lt_of_succ_lt hu)) (pv 2) (pv 1) (j9 _)) (w8 (y6 (pv 3))) z0)))
      (w8 (y6 Z7)), ?_⟩
    refine ⟨_, rfl, p, rfl, ⟨_, SqL.of hp⟩, for_list (K := K) (a := p) (xs := us) (fun i σ H' => ∃ v2 v3 : Option V, σ = [some (.ref p), some (.ref a), v2, v3] /\ H' = H /\ rs.lookup nm = (rs.drop i).lookup nm) ⟨none, none, rfl, rfl, rfl⟩ (fun i σ H' _ ⟨_, _, _, e, _⟩ => by rw [e]; exact SqL.of hp) ?_ ?_⟩
    · rintro i x σ H' hx ⟨v2, v3, rfl, rfl, el⟩;obtain ⟨T, aa, bb, r, rfl, hr, hT, ha, hb⟩ := hR.get hx;have hi := (List.getElem?_eq_some_iff.mp hr).1
      have er : rs.drop i = r :: rs.drop (i + 1) := by
        obtain ⟨hi', e⟩ := List.getElem?_eq_some_iff.mp hr;rw [List.drop_eq_getElem_cons hi', e]
      obtain ⟨n, k⟩ := r;rw [er, List.lookup_cons] at el;refine ⟨T, _, rfl, SqT.of hT, rfl, _, _, rfl, _, _, rfl, rfl, ?_⟩;refine ⟨_, rfl, _, rfl, aa, a, n, nm, rfl, rfl, SqL.of ha, hS, _, rfl, ?_⟩;refine ite2 (fun e => ?_) (fun e => ?_)
      · have e' : n = nm := of_decide_eq_true e;rw [show (nm == n) = true by rw [e']; exact beq_self_eq_true nm] at el;exact ⟨_, rfl, q2 k el bb hb⟩
      · have e' : ¬ n = nm := fun y => e (decide_eq_true y)
        rw [show (nm == n) = false from beq_eq_false_iff_ne.mpr (Ne.symm e')] at el;exact ⟨_, _, rfl, rfl, el⟩
    · rintro σ H' ⟨v2, v3, rfl, rfl, el⟩;rw [hR.len, List.drop_length] at el;exact q1 el
end
end J
namespace J
open PySem PySem.Spec PyProof.Rows L2 G Ex
open Sv20 (Json claimsOk headerOk stringOf keysOf tokenOf mac)
section
variable {P : Program} {w : World} {K : PySem.W.Frag} {mg : Str -> Option Value} {base : Heap} {CV CT aK : Addr}
theorem scRr : z7 ["keys", "rows", "place", "name_end", "row_end"] ["keys"] (y3 (top 64)) := ⟨rfl, rfl, rfl, by decide +kernel, rfl, by decide +kernel, by decide +kernel⟩
theorem ok_rows {f : Addr} {fd : FuncData} (F : Fun K "read_rows" "read_rows" (top 64) f fd) (hlen : mg "len" = none) (gK : ∃ t, mg "LONGEST_KEY" = some (.int 64 t)) : FnOk P w K mg base CX0 1 f fd ["keys"] (spRows K) := by
  refine F.ok scRr (fun vs H Q E h => ?_) (fun cdv A outer s H vs Q E hr h => ?_)
  · obtain ⟨a, t, rfl, _⟩ := h;rfl
  · obtain ⟨a, t, rfl, hS, hl, q1, q2⟩ := h;have lz : sizeLine = 16777216 := rfl
    refine ⟨_, w4 (z6 (i := 1) scRr.nd rfl (Or.inl rfl) (W6 w9))
      (w4 (z6 (i := 2) scRr.nd rfl (Or.inl rfl) y2)
      (w4 (ps_while PassesOwn.never (j8 op_lt (pv 2) (Z8 rfl hlen (pv 0)) (j9 _))
        (w4 (z6 (i := 3) scRr.nd rfl (Or.inl rfl) (y8 Q2 (y8 Q2 (pv 2) y2) (Q8 v8 (pv 0) (pv 2) (fun _ _ => rfl))))
        (w4 (j7 (j8 op_ge (pv 3) (Z8 rfl hlen (pv 0)) (j9 _)) (w8 (y6 Z7)) z0)
        (w4 (z6 (i := 4) scRr.nd rfl (Or.inl rfl) (y8 Q2 (y8 Q2 (pv 3) y2) (Q8 v8 (pv 0) (pv 3) (fun _ _ => rfl))))
        (w4 (j7 (PW.pt (pw_or (Q9 (Y5 W4 W4 y2 (Q8 v8 (pv 0) (pv 3) (fun _ _ => rfl)) (x8 rfl gK))) (pw_or1 (j8 op_gt (pv 4) (Z8 rfl hlen (pv 0)) (j9 _))))) (w8 (y6 Z7)) z0)
        (w4 (k8 (pe_bm PySem.F.plainAttrs_list PySem.F.slot_list_append PySem.F.type_list_append mt_append (pv 1) (w6 (pe_tup (w6 (Y7 sl_list (pv 0) (Q5 (y8 Q2 (pv 2) y2)) (Q5 (pv 3))) (w6 (Y7 sl_list (pv 0) (Q5 (y8 Q2 (pv 3) y2)) (Q5 (pv 4))) w9))) w9)))
        (w8 (z6 (i := 2) scRr.nd rfl (Or.inl rfl) (pv 4)))))))))
      (w8 (y6 (pv 1))))), ?_⟩
    refine ⟨Nat.zero_le _, fun L hL => ?_⟩
    refine ⟨fun m σ H' => ∃ (p f : Nat) (us : List V) (rs : List (List Nat × List Nat)) (v3 v4 : Option V), σ = [some (.ref a), some (.ref L), some (.int (p : Int)), v3, v4] /\ Same H H' /\ H' L = some (.lst us) /\ Q4 L H' us rs /\ keysOf (t.length + 1) t = (keysOf f (t.drop p)).map (fun l => rs ++ l) /\ t.length - p + 1 <= f /\ us.length <= p /\ p <= t.length /\ m = t.length - p,
      ⟨_, 0, t.length + 1, [], [], none, none, rfl, z8 hL _, y1, .nil, ?_, by omega, Nat.le_refl _, Nat.zero_le _, rfl⟩, ?_⟩
    · rw [List.drop_zero];cases keysOf (t.length + 1) t <;> rfl
    rintro m σ H1 ⟨p, fu, us, rs, v3, v4, rfl, s1, kL, hR, ek, hf, hu, hp, rfl⟩;obtain ⟨g, rfl⟩ : ∃ g, fu = g + 1 := ⟨fu - 1, by omega⟩;have hS1 := s1.seq hS;refine ⟨_, rfl, _, rfl, a, _, rfl, .inl hS1, _, _, rfl, rfl, _, rfl, ?_⟩;refine ite2 (fun e => ?_) (fun e => ?_)
    · have e' : (p : Int) < ((nv t).length : Nat) := of_decide_eq_true e;rw [j5] at e';have hpl : p < t.length := by omega
      have hn : t[p]? = some t[p] := List.getElem?_eq_getElem hpl;generalize t[p] = n at hn
      refine ⟨fun σ' H' => ∃ (p2 : Nat) (us : List V) (rs : List (List Nat × List Nat)) (v3 v4 : Option V), σ' = [some (.ref a), some (.ref L), some (.int (p2 : Int)), v3, v4] /\ Same H H' /\ H' L = some (.lst us) /\ Q4 L H' us rs /\ keysOf (t.length + 1) t = (keysOf g (t.drop p2)).map (fun l => rs ++ l) /\ us.length <= p2 /\ p2 <= t.length /\ p < p2,
        fun σ' H' ⟨p2, us, rs, v3, v4, h1, h2, h3, h4, h5, h6, h7, h8⟩ => ⟨t.length - p2, by omega, p2, g, us, rs, v3, v4, h1, h2, h3, h4, h5, by omega, h6, h7, rfl⟩, ?_⟩
      refine ⟨_, rfl, p, 1, rfl, rfl, _, rfl, _, rfl, a, _, _, _, rfl, rfl, hS1, at_of (j := p) rfl (nv_get hn), p + 1, n, rfl, rfl, ?_⟩;refine ⟨_, rfl, _, rfl, a, _, rfl, .inl hS1, _, _, rfl, rfl, _, rfl, ?_⟩;refine ite2 (fun c1 => ?_) (fun c1 => ?_)
      · have c1' : ((nv t).length : Int) <= ((p + 1 + n : Nat) : Int) := of_decide_eq_true c1;rw [j5] at c1';exact q1 (by rw [ek, MG.keys_no hn (by omega)]; rfl) H1
      have c1' : ¬ ((nv t).length : Int) <= ((p + 1 + n : Nat) : Int) := fun y => c1 (decide_eq_true y)
      rw [j5] at c1';have hkl : p + 1 + n < t.length := by omega
      have hk : t[p + 1 + n]? = some t[p + 1 + n] := List.getElem?_eq_getElem hkl;generalize t[p + 1 + n] = k at hk;have atk : atI (nv t) ((p + 1 + n : Nat) : Int) = some (.int (k : Int)) := at_of (j := p + 1 + n) rfl (nv_get hk);refine ⟨_, rfl, p + 1 + n, 1, rfl, rfl, _, rfl, _, rfl, a, _, _, _, rfl, rfl, hS1, atk, p + 1 + n + 1, k, rfl, rfl, ?_⟩;have bad : (k < 1 \/ 64 < k \/ t.length < p + 1 + n + 1 + k) -> Q .non H1 := fun hb => q1 (by rw [ek, MG.keys_bad hn hk hb]; rfl) H1
      have good : 1 <= k -> k <= 64 -> p + 1 + n + 1 + k <= t.length -> tSeq (W9 (tBM K "list" rAppend (tVar 1) (Q0 (tTup (Q0 (tSl (rSlL K) (tVar 0) (tPart (tOp (rN0 fun a b => a + b) (tVar 2) (tC (.int 1)))) (tPart (tVar 3))) (Q0 (tSl (rSlL K) (tVar 0) (tPart (tOp (rN0 fun a b => a + b) (tVar 3) (tC (.int 1)))) (tPart (tVar 4))) tNil))) tNil))) (tAsg (tVar 4) (gName 2)) { nx := fun σ' H' => ∃ (p2 : Nat) (us : List V) (rs : List (List Nat × List Nat)) (v3 v4 : Option V), σ' = [some (.ref a), some (.ref L), some (.int (p2 : Int)), v3, v4] /\ Same H H' /\ H' L = some (.lst us) /\ Q4 L H' us rs /\ keysOf (t.length + 1) t = (keysOf g (t.drop p2)).map (fun l => rs ++ l) /\ us.length <= p2 /\ p2 <= t.length /\ p < p2, ct := fun σ' H' => ∃ (p2 : Nat) (us : List V) (rs : List (List Nat × List Nat)) (v3 v4 : Option V), σ' = [some (.ref a), some (.ref L), some (.int (p2 : Int)), v3, v4] /\ Same H H' /\ H' L = some (.lst us) /\ Q4 L H' us rs /\ keysOf (t.length + 1) t = (keysOf g (t.drop p2)).map (fun l => rs ++ l) /\ us.length <= p2 /\ p2 <= t.length /\ p < p2, bk := tRet (tVar 1) { nx := fun _ H' => Q .non H', rt := Q }, rt := Q } [some (.ref a), some (.ref L), some (.int (p : Int)), some (.int ((p + 1 + n : Nat) : Int)), some (.int ((p + 1 + n + 1 + k : Nat) : Int))] H1 := by
        intro k1 k2 k3;rw [MG.keys_step hn hk k1 k2 k3] at ek;refine ⟨_, rfl, .inl ⟨rfl, _, SqL.of kL⟩, _, rfl, _, rfl, p, 1, rfl, rfl, _, rfl, _, rfl, _, rfl, a, _, rfl, hS1, fun l1 hl1 => ?_⟩;have s2 := z8 (o := .lst (cutV (nv t) (some ((p + 1 : Nat) : Int)) (some ((p + 1 + n : Nat) : Int)))) hl1
        have e1 : (upd H1 l1 (.lst (cutV (nv t) (some ((p + 1 : Nat) : Int)) (some ((p + 1 + n : Nat) : Int))))) l1 = some (.lst (nv ((t.drop (p + 1)).take n))) := by
          rw [y1, cut_nat (by omega) (by omega)]
          congr 4
          omega
        have n1 : l1 ≠ L := Ne.symm (y4 kL hl1);refine ⟨_, rfl, _, rfl, p + 1 + n, 1, rfl, rfl, _, rfl, _, rfl, _, rfl, a, _, rfl, s2.seq hS1, fun l2 hl2 => ?_⟩;have hl2 : (upd H1 l1 (.lst (cutV (nv t) (some ((p + 1 : Nat) : Int)) (some ((p + 1 + n : Nat) : Int))))) l2 = none := hl2;have s3 := z8 (o := .lst (cutV (nv t) (some ((p + 1 + n + 1 : Nat) : Int)) (some ((p + 1 + n + 1 + k : Nat) : Int)))) hl2
        have e2 : (upd (upd H1 l1 (.lst (cutV (nv t) (some ((p + 1 : Nat) : Int)) (some ((p + 1 + n : Nat) : Int))))) l2 (.lst (cutV (nv t) (some ((p + 1 + n + 1 : Nat) : Int)) (some ((p + 1 + n + 1 + k : Nat) : Int))))) l2 = some (.lst (nv ((t.drop (p + 1 + n + 1)).take k))) := by
          rw [y1, cut_nat (by omega) (by omega)]
          congr 4
          omega
        have e12 := s3 _ _ e1;have kL2 := s2 _ _ kL;have n2 : l2 ≠ L := Ne.symm (y4 kL2 hl2);have kL3 := s3 _ _ kL2;have s13 := s2.trans s3;refine ⟨(by show 2 <= sizeLine; decide), fun T hT => ?_⟩;have hT : (upd (upd H1 l1 (.lst (cutV (nv t) (some ((p + 1 : Nat) : Int)) (some ((p + 1 + n : Nat) : Int))))) l2 (.lst (cutV (nv t) (some ((p + 1 + n + 1 : Nat) : Int)) (some ((p + 1 + n + 1 + k : Nat) : Int))))) T = none := hT;have s4 := z8 (o := .tup [.ref l1, .ref l2]) hT;have n3 : T ≠ L := Ne.symm (y4 kL3 hT);have kL4 := s4 _ _ kL3;have e3 : (upd (upd (upd H1 l1 (.lst (cutV (nv t) (some ((p + 1 : Nat) : Int)) (some ((p + 1 + n : Nat) : Int))))) l2 (.lst (cutV (nv t) (some ((p + 1 + n + 1 : Nat) : Int)) (some ((p + 1 + n + 1 + k : Nat) : Int))))) T (.tup [.ref l1, .ref l2])) T = some (.tup [.ref l1, .ref l2]) := y1;have e14 := s4 _ _ e12;have e24 := s4 _ _ e2;have s14 := s13.trans s4;refine ⟨L, _, _, rfl, rfl, kL4, by omega, ?_⟩;refine ⟨_, rfl, p + 1 + n + 1 + k, us ++ [.ref T], rs ++ [((t.drop (p + 1)).take n, (t.drop (p + 1 + n + 1)).take k)], _, _, rfl, Q3 (s1.trans s14) hL _, y1, ?_, ?_, ?_, k3, by omega⟩
        · refine Q4.snoc n3 n1 n2 (by rw [y9 n3]; exact e3) (by rw [y9 n1]; exact e14) (by rw [y9 n2]; exact e24) (hR.mono fun b o nb h => ?_);rw [y9 nb];exact s14 _ _ h
        · rw [ek];cases keysOf g (t.drop (p + 1 + n + 1 + k)) with
          | none => rfl
          | some l => show some (rs ++ _ :: l) = some ((rs ++ [_]) ++ l); rw [List.append_assoc]; rfl
        · rw [List.length_append];show us.length + 1 <= _;omega
      refine ⟨_, rfl, _, rfl, a, _, _, _, rfl, rfl, hS1, atk, 1, _, rfl, rfl, _, rfl, ?_⟩;refine ite2 (fun c2 => ?_) (fun c2 => ?_)
      · have c2' : (1 : Int) <= k := of_decide_eq_true c2;refine ⟨_, 64, rfl, rfl, _, rfl, ?_⟩;cases h64 : decide ((k : Int) <= 64) with
        | false =>
          have h64' := of_decide_eq_false h64;exact iteT (iteT (bad (.inr (.inl (by omega)))))
        | true =>
          have h64' := of_decide_eq_true h64;refine iteF ?_;refine ⟨_, rfl, _, rfl, a, _, rfl, .inl hS1, _, _, rfl, rfl, _, rfl, ?_⟩;refine ite2 (fun c3 => ?_) (fun c3 => ?_)
          · have c3' : ((nv t).length : Int) < ((p + 1 + n + 1 + k : Nat) : Int) := of_decide_eq_true c3;rw [j5] at c3';exact bad (.inr (.inr (by omega)))
          · have c3' : ¬ ((nv t).length : Int) < ((p + 1 + n + 1 + k : Nat) : Int) := fun y => c3 (decide_eq_true y)
            rw [j5] at c3';exact good (by omega) (by omega) (by omega)
      · have c2' : ¬ (1 : Int) <= k := fun y => c2 (decide_eq_true y)
        refine ⟨_, rfl, ?_⟩;exact iteT (iteT (bad (.inl (by omega))))
    · have e' : ¬ (p : Int) < ((nv t).length : Nat) := fun y => e (decide_eq_true y)
      rw [j5] at e';rw [MG.keys_end (by omega)] at ek;have ek : keysOf (t.length + 1) t = some (rs ++ []) := ek;rw [List.append_nil] at ek;exact ⟨_, rfl, q2 rs ek L us H1 s1 kL hR⟩
theorem scFf : z7 ["text", "rows", "now", "slack", "iss", "aud", "token", "header", "key", "claims"] ["text", "rows", "now", "slack", "iss", "aud"] (y3 (top 82)) := ⟨rfl, rfl, rfl, by decide +kernel, rfl, by decide +kernel, by decide +kernel⟩
theorem mem_lookup {rs : List (List Nat × List Nat)} {n k : List Nat} (h : rs.lookup n = some k) : ∃ r ∈ rs, r.2 = k := by
  induction rs with
  | nil => cases h
  | cons r rs ih =>
    obtain ⟨a, b⟩ := r;rw [List.lookup_cons] at h;cases e : (n == a) with
    | true => rw [e] at h; cases h; exact ⟨_, List.mem_cons_self, rfl⟩
    | false =>
      rw [e] at h;obtain ⟨r, hr, e2⟩ := ih h;exact ⟨r, List.mem_cons_of_mem _ hr, e2⟩
theorem ok_first {k : Nat} (hk : 5 <= k) {f : Addr} {fd : FuncData} (F : Fun K "first_fault" "first_fault" (top 82) f fd) (TF : TxtF mg) (T7 : Txt7 K mg CT) (CTk : Callee P w K mg base CX0 "read_token" 3 ["text"] (spToken K CT)) (CRH : Callee P w K mg base CX0 "right_header" k ["text"] (spRightHeader K CV)) (CKo : Callee P w K mg base CX0 "kid_of" 3 ["header"] (spKidOf CV)) (CKn : Callee P w K mg base CX0 "key_named" 1 ["rows", "name"] (spKey K))
    (CH : Callee P w K mg base CX0 "hs256" 5 ["key", "data"] (T3.spHs K)) (CRC : Callee P w K mg base CX0 "right_claims" k ["text"] (spRightClaims K CV)) (CCf : Callee P w K mg base CX0 "claims_fault" 4 ["claims", "now", "slack", "iss", "aud"] (spFault K CV)) : FnOk P w K mg base CX0 (k + 1) f fd ["text", "rows", "now", "slack", "iss", "aud"] (spFirst K) := by
  refine F.ok scFf (fun vs H Q E h => ?_) (fun cdv A outer s H vs Q E hr h => ?_)
  · obtain ⟨a, p, now, slack, vi, va, iss, aud, t, us, rs, rfl, _⟩ := h;rfl
  · obtain ⟨a, p, now, slack, vi, va, iss, aud, t, us, rs, rfl, hS, hl, hb, hp, hR, hk64, oi, oa, q⟩ := h;have hr1 : Room 1 _ := hr.mono (by omega);have hr3 : Room 3 _ := hr.mono (by omega);have hr4 : Room 4 _ := hr.mono (by omega);have hr5 : Room 5 _ := hr.mono (by omega);have hu : _ + 65 < cLine := hu64 hr
    refine ⟨_, w4 (z6 (i := 6) scFf.nd rfl (Or.inl rfl) (j6 CTk j0 hr3 rfl (w6 (pv 0) w9)))
      (w4 (j7 (W2 (Z1 (pv 6))) (w8 (y6 (x8 rfl TF.g1))) z0)
      (w4 (z6 (i := 7) scFf.nd rfl (Or.inl rfl) (j6 CRH j0 hr rfl (w6 (k7 (pv 6) rfl) w9)))
      (w4 (j7 (W2 (Z1 (pv 7))) (w8 (y6 (x8 rfl TF.g2))) z0)
      (w4 (z6 (i := 8) scFf.nd rfl (Or.inl rfl) (j6 CKn j0 hr1 rfl (w6 (pv 1) (w6 (j6 CKo j0 hr3 rfl (w6 (pv 7) w9)) w9))))
      (w4 (j7 (W2 (Z1 (pv 8))) (w8 (y6 (x8 rfl TF.g3))) z0)
      (w4 (j7 (j8 (op_neB (Nat.lt_of_succ_lt hu)) (k7 (pv 6) rfl) (j6 CH j0 hr5 rfl (w6 (pv 8) (w6 (k7 (pv 6) rfl) w9))) (j9 _)) (w8 (y6 (x8 rfl TF.g4))) z0)
      (w4 (z6 (i := 9) scFf.nd rfl (Or.inl rfl) (j6 CRC j0 hr rfl (w6 (k7 (pv 6) rfl) w9)))
      (w4 (j7 (W2 (Z1 (pv 9))) (w8 (y6 (x8 rfl TF.g5))) z0)
      (w8 (y6 (j6 CCf j0 hr4 rfl (w6 (pv 9) (w6 (pv 2) (w6 (pv 3) (w6 (pv 4) (w6 (pv 5) w9)))))))))))))))), ?_⟩
    rw [MG.checked_is] at q;refine ⟨_, rfl, a, t, rfl, hS, hl, hb, fun et H1 s1 => ?_, fun x et y dx l1 l2 l3 l4 H1 s1 kp k1 k2 k3 k4 => ?_⟩
    · rw [et] at q;exact ⟨_, rfl, _, rfl, iteT (q H1)⟩
    obtain ⟨u1, u2, u3, u4, u5, u6⟩ := unp_len et;rw [et] at q
    have q : ∀ H', Q (.int ((match Sv20.object x.header with
      | none => 2
      | some h => if headerOk h = false then 2 else match rs.lookup ((stringOf h "kid").getD []) with
        | none => 3
        | some k => if mac k x.signed ≠ x.signature then 4 else match Sv20.object x.claims with
          | none => 5
          | some c => if claimsOk c = false then 5 else MG.cf c now slack iss aud : Nat) : Int)) H' := q
    refine ⟨_, rfl, _, rfl, iteF ?_⟩;refine ⟨_, rfl, y, CT, dx, _, _, rfl, kp, T7.cl, T7.nH, rfl, l1, x.header, rfl, SqL.of k1, by omega, u4, fun eo H2 => ?_, fun hm eo => ⟨fun hc H2 => ?_, fun hc d kvs H2 s2 kd hv => ?_⟩⟩
    · rw [eo] at q;exact ⟨_, rfl, _, rfl, iteT (q H2)⟩
    · rw [eo] at q;have q := q H2;simp only [hc, if_true] at q;exact ⟨_, rfl, _, rfl, iteT q⟩
    rw [eo] at q
    have q : ∀ H', Q (.int ((match rs.lookup ((stringOf hm "kid").getD []) with
        | none => 3
        | some k => if mac k x.signed ≠ x.signature then 4 else match Sv20.object x.claims with
          | none => 5
          | some c => if claimsOk c = false then 5 else MG.cf c now slack iss aud : Nat) : Int)) H' := fun H' => by
      have := q H';simp only [hc] at this;exact this
    refine ⟨_, rfl, _, rfl, iteF ?_⟩;have s12 := s1.trans s2;refine ⟨_, rfl, _, rfl, d, kvs, _, _, hm, rfl, kd, hv, hc, fun p2 H3 s3 k3' => ?_⟩;have s13 := s12.trans s3;have hR3 : Q4 p H3 us rs := hR.mono fun b o _ h => s13 _ _ h
    refine ⟨p, p2, us, rs, _, rfl, s13 _ _ hp, hR3, SqL.of k3', fun el => ?_, fun ky el b hb3 => ?_⟩
    · rw [el] at q;exact ⟨_, rfl, _, rfl, iteT (q H3)⟩
    rw [el] at q
    have q : ∀ H', Q (.int ((if mac ky x.signed ≠ x.signature then 4 else match Sv20.object x.claims with
          | none => 5
          | some c => if claimsOk c = false then 5 else MG.cf c now slack iss aud : Nat) : Int)) H' := q
    refine ⟨_, rfl, _, rfl, iteF ?_⟩;obtain ⟨rw_, hrw, erw⟩ := mem_lookup el;have kk := hk64 rw_ hrw;rw [erw] at kk;have s23 := s2.trans s3;have kp3 := s23 _ _ kp;refine ⟨_, rfl, y, CT, dx, _, _, rfl, kp3, T7.cl, T7.nS, rfl, _, rfl, _, rfl, y, CT, dx, _, _, rfl, kp3, T7.cl, T7.nD, rfl, b, l4, ky, x.signed, rfl, SqL.of hb3, SqL.of (s23 _ _ k4), kk.1, by omega, kk.2, fun z hz => hb z (u6 z hz), fun p4 H4 s4 n4 k4' => ?_⟩;have s24 := s23.trans s4;refine ⟨l3, p4, x.signature, mac ky x.signed, rfl, rfl, SqL.of (s24 _ _ k3), SqL.of k4', _, rfl, ?_⟩;by_cases hs : x.signature = mac ky x.signed
    · rw [if_neg (fun z => z hs.symm)] at q;rw [decide_eq_true hs];refine iteF ?_;have s14 := s1.trans s24;refine ⟨_, rfl, y, CT, dx, _, _, rfl, s24 _ _ kp, T7.cl, T7.nC, rfl, l2, x.claims, rfl, SqL.of (s24 _ _ k2), by omega, u5, fun eo H5 => ?_, fun cm eo => ⟨fun hc H5 => ?_, fun hc d2 kvs2 H5 s5 kd2 hv2 => ?_⟩⟩
      · rw [eo] at q;exact ⟨_, rfl, _, rfl, iteT (q H5)⟩
      · rw [eo] at q;have q := q H5;simp only [hc, if_true] at q;exact ⟨_, rfl, _, rfl, iteT q⟩
      · rw [eo] at q
        have q : ∀ H', Q (.int ((MG.cf cm now slack iss aud : Nat) : Int)) H' := fun H' => by
          have := q H';simp only [hc] at this;exact this
        refine ⟨_, rfl, _, rfl, iteF ?_⟩;have s15 := s14.trans s5;exact ⟨_, rfl, _, rfl, _, rfl, _, rfl, _, rfl, d2, now, slack, vi, va, iss, aud, kvs2, _, _, cm, rfl, oi.mono s15, oa.mono s15, kd2, hv2, hc, by omega, q⟩
    · rw [if_pos (fun z => hs z.symm)] at q;rw [decide_eq_false hs];exact iteT (q H4)
theorem scCk : z7 ["now", "slack", "i", "a", "token", "keys", "iss", "aud", "rows"] ["now", "slack", "i", "a", "token", "keys", "iss", "aud"] (y3 (top 90)) := ⟨rfl, rfl, rfl, by decide +kernel, rfl, by decide +kernel, by decide +kernel⟩
theorem ok_check {k : Nat} (hk : 1 <= k) {f : Addr} {fd : FuncData} (F : Fun K "tk_check" "tk_check" (top 90) f fd) (g2 : ∃ t, mg "WRONG_ARGUMENTS" = some (.int (-2) t)) (g3 : ∃ t, mg "NOT_WRITTEN_SO" = some (.int (-3) t)) (CWl : Callee P w K mg base CX0 "is_wanted_length" 1 ["length"] spWl) (CWa : Callee P w K mg base CX0 "wanted" 1 ["length", "data"] spWanted) (CRr : Callee P w K mg base CX0 "read_rows" 1 ["keys"] (spRows K)) (CFf : Callee P w K mg base CX0 "first_fault" k ["text", "rows", "now", "slack", "iss", "aud"] (spFirst K)) : FnOk P w K mg base CX0 (k + 1) f fd ["now", "slack", "i", "a", "token", "keys", "iss", "aud"] (spCheck K) := by
  refine F.ok scCk (fun vs H Q E h => ?_) (fun cdv A outer s H vs Q E hr h => ?_)
  · obtain ⟨now, slack, i, j, a, b, c, d, ts, ks, is, js, rfl, _⟩ := h;rfl
  · obtain ⟨now, slack, i, j, a, b, c, d, ts, ks, is, js, rfl, h0, h1, hA, hB, hC, hD, l1, l2, b1, b2, b3, b4, q⟩ := h;have hr1 : Room 1 _ := hr.mono hk;have lz : sizeLine = 16777216 := rfl
    refine ⟨_, w4 (j7 (PW.pt (pw_or (Q9 (x5 (j6 CWl j0 hr1 rfl (w6 (pv 2) w9)))) (pw_or1 (Q9 (x5 (j6 CWl j0 hr1 rfl (w6 (pv 3) w9))))))) (w8 (y6 (W6 (w6 (x8 rfl g2) w9)))) z0)
      (w4 (z6 (i := 8) scCk.nd rfl (Or.inl rfl) (j6 CRr j0 hr1 rfl (w6 (pv 5) w9)))
      (w4 (j7 (W2 (Z1 (pv 8))) (w8 (y6 (W6 (w6 (x8 rfl g3) w9)))) z0)
      (w8 (y6 (W6 (w6 (j6 CFf j0 hr rfl (w6 (pv 4) (w6 (pv 8) (w6 (pv 0) (w6 (pv 1) (w6 (j6 CWa j0 hr1 rfl (w6 (pv 2) (w6 (pv 6) w9))) (w6 (j6 CWa j0 hr1 rfl (w6 (pv 3) (w6 (pv 7) w9))) w9))))))) w9)))))), ?_⟩
    have one : ∀ (z : Int) (H1 : Hp), PySv20.tk_check now slack i j ts ks is js = [z] -> (1 : Nat) <= sizeLine /\ ∀ p, H1 p = none -> Q (.ref p) (upd H1 p (.lst [.int z])) := fun z H1 e => ⟨by decide, fun p _ => q _ p (by rw [y1, e]; rfl)⟩
    refine ⟨_, rfl, i, rfl, _, rfl, ?_⟩;by_cases hi : -1 <= i /\ i <= 1024
    · rw [decide_eq_true hi];refine iteF ?_;refine ⟨_, rfl, j, rfl, _, rfl, ?_⟩;by_cases hj : -1 <= j /\ j <= 1024
      · rw [decide_eq_true hj];refine iteF ?_;have ec := M5.check_is (now := now) (slack := slack) (y := is) (z := js) l1 l2 hi hj;rw [nv_of b1] at hA;rw [nv_of b2] at hB;rw [nv_of b3] at hC;rw [nv_of b4] at hD;have nA := nats_len ts;have nB := nats_len ks;refine ⟨_, rfl, b, Sv20Neutral.nats ks, rfl, hB, by omega, fun eo H1 => ?_, fun rs eo p us H1 s1 kp hR => ?_⟩
        · rw [nB] at eo;rw [eo] at ec;exact ⟨_, rfl, _, rfl, iteT (one (-3) H1 ec)⟩
        · have eo' := eo;rw [nB] at eo;rw [eo] at ec;have kin := MG.keys_in _ _ rs eo';refine ⟨_, rfl, _, rfl, iteF ?_⟩;obtain ⟨nn, rfl⟩ : ∃ nn : Nat, now = (nn : Int) := ⟨now.toNat, by omega⟩;obtain ⟨sl, rfl⟩ : ∃ sl : Nat, slack = (sl : Int) := ⟨slack.toNat, by omega⟩
          have opt : ∀ (z : Int) (c : Addr) (ns : List Int), SqL K H c (nv (Sv20Neutral.nats ns)) -> OptS K (if z = -1 then .non else .ref c) (Sv20.asked z (Sv20Neutral.nats ns)) H1 := fun z c ns hc => by
            unfold Sv20.asked;by_cases e : z = -1
            · rw [if_pos e, if_pos e]; rfl
            · rw [if_neg e, if_neg e]; exact ⟨c, rfl, s1.seq hc⟩
          refine ⟨_, rfl, _, rfl, _, rfl, _, rfl, _, rfl, _, rfl, i, .ref c, rfl, _, rfl, _, rfl, j, .ref d, rfl, a, p, nn, sl, _, _, Sv20.asked i (Sv20Neutral.nats is), Sv20.asked j (Sv20Neutral.nats js), Sv20Neutral.nats ts, us, rs, rfl, s1.seq hA, by omega, nats_lt b1, kp, hR, fun r hr => ⟨(kin r hr).1, fun x hx => nats_lt b2 x ((kin r hr).2 x hx)⟩, opt i c is hC, opt j d js hD, fun H2 => ?_⟩;refine ⟨(by show 1 <= sizeLine; decide), fun p2 hp2 => q _ p2 ?_⟩;rw [y1, ec];rfl
      · rw [decide_eq_false hj];exact iteT (one (-2) H (M5.check_bad fun z => hj z.2))
    · rw [decide_eq_false hi];exact iteT (iteT (one (-2) H (M5.check_bad fun z => hi z.1)))
end
end J
namespace Z6
open PySem PySem.Spec PyProof.Rows L2 G Ex J
open PySem.W (Codec)
structure Gf (K : PySem.W.Frag) (y x : Str) (st : Stmt) (f : Addr) (fd : FuncData) : Prop where
  a : PySem.W.nsIn K mainGlobals y = some (some (.ref f))
  F : Fun K x x st f fd
structure Mf (K : PySem.W.Frag) (C : Addr) (x y : Str) (st : Stmt) (f : Addr) (fd : FuncData) : Prop where
  a : PySem.W.findIn K (.ref C) x = some (some (.ref f))
  i : PySem.W.isFn K (.ref f) = true
  F : Fun K x y st f fd
theorem all_mk {P : Program} {w : World} {K : PySem.W.Frag} {h : Heap} {mg : Str -> Option Value} {fa : Addr} (X : K.In h) (Gm : h.Ns mainGlobals mg) (hfa : mg "tk_check" = some (.ref fa))
    {u_BLANKSd u_FIRST_STATEd u_CONSTANTSd u_LONG_FORMSd v_e_LONG_FORMS0d v_e_LONG_FORMS1d v_e_LONG_FORMS2d v_e_LONG_FORMS3d v_e_LONG_FORMS4d v_e_LONG_FORMS5d v_e_LONG_FORMS6d v_e_LONG_FORMS7d : Option Addr} {u_BLANKSs u_FIRST_STATEs u_CONSTANTSs u_LONG_FORMSs v_e_LONG_FORMS0s v_e_LONG_FORMS1s v_e_LONG_FORMS2s v_e_LONG_FORMS3s v_e_LONG_FORMS4s v_e_LONG_FORMS5s v_e_LONG_FORMS6s v_e_LONG_FORMS7s : Array (Option Value)} {dt1 dt2 dt5 dt6 dt7 dt21 dt22 dt25 dt27 dt28 dt29 dt30 dt34 dt35 dt36 dt37 dt39 dt40 dt41 dt42 dt43 dt45 dt47 dt48 dt54 dt55 dt56 dt57 dt58 dt59 dt62 dt64 dt65 dt69 dt81 dt82 dt88 dt89 dt90 dm23_0 dm24_0 dm24_1 dm24_2 dm24_3 dm24_4 dm24_5 dm24_6 dm24_7 dm24_8 dm24_9 dm24_10 dm24_11 dm24_12 dm24_13 dm24_14 dm24_15 dm24_16 dm24_17 dm24_18 dm24_19 dm68_0 : FuncData} {ft1 ft2 ft5 ft6 ft7 ft21 ft22 ft25 ft27 ft28 ft29 ft30 ft34 ft35 ft36 ft37 ft39 ft40 ft41 ft42 ft43 ft45 ft47 ft48 ft54 ft55 ft56 ft57 ft58 ft59 ft62 ft64 ft65 ft69 ft81 ft82 ft88 ft89 ft90 fm23_0 fm24_0 fm24_1 fm24_2 fm24_3 fm24_4 fm24_5 fm24_6 fm24_7 fm24_8 fm24_9 fm24_10 fm24_11 fm24_12 fm24_13 fm24_14 fm24_15 fm24_16 fm24_17 fm24_18 fm24_19 fm68_0 CV CR CT CN aB aF aC aL e_LONG_FORMS0 e_LONG_FORMS1 e_LONG_FORMS2 e_LONG_FORMS3 e_LONG_FORMS4 e_LONG_FORMS5 e_LONG_FORMS6 e_LONG_FORMS7 aE aK : Addr} {t0 t1 t2 t3 t4 t5 t6 t7 t8 t9 t10 t11 t12 t13 t14 t15 t16 t17 t18 t19 t20 t21 t22 t23 t24 t25 t26 t27 : Tok} {u_BLANKSi u_FIRST_STATEi u_CONSTANTSi v_e_LONG_FORMS0i v_e_LONG_FORMS1i v_e_LONG_FORMS2i v_e_LONG_FORMS3i v_e_LONG_FORMS4i v_e_LONG_FORMS5i v_e_LONG_FORMS6i v_e_LONG_FORMS7i : Array Value} {u_BLANKSn u_FIRST_STATEn u_CONSTANTSn u_LONG_FORMSn v_e_LONG_FORMS0n v_e_LONG_FORMS1n v_e_LONG_FORMS2n v_e_LONG_FORMS3n v_e_LONG_FORMS4n v_e_LONG_FORMS5n v_e_LONG_FORMS6n v_e_LONG_FORMS7n d_ESCAPESp d_KINDSp : Nat} {d_ESCAPESe d_KINDSe : Array DictEntry} (aCV : PySem.W.nsIn K mainGlobals "Value" = some (some (.ref CV))) (aCR : PySem.W.nsIn K mainGlobals "Reader" = some (some (.ref CR))) (aCT : PySem.W.nsIn K mainGlobals "Token" = some (some (.ref CT))) (aN : PySem.W.nsIn K mainGlobals "NotJson" = some (some (.ref CN))) (qt1 : Gf K "six_of" "six_of" (top 1) ft1 dt1) (qt2 : Gf K "from_signs" "from_signs" (top 2) ft2 dt2) (qt5 : Gf K "long_sign_size" "long_sign_size" (top 5) ft5 dt5) (qt6 : Gf K "sign_size" "sign_size" (top 6) ft6 dt6) (qt7 : Gf K "utf8_of" "utf8_of" (top 7) ft7 dt7) (qt21 : Gf K "is_digit" "is_digit" (top 21) ft21 dt21) (qt22 : Gf K "hex_of" "hex_of" (top 22) ft22 dt22) (qt25 : Gf K "read_members" "read_members" (top 25) ft25 dt25) (qt27 : Gf K "ascii_of" "ascii_of" (top 27) ft27 dt27) (qt28 : Gf K "member" "member" (top 28) ft28 dt28) (qt29 : Gf K "is_string" "is_string" (top 29) ft29 dt29) (qt30 : Gf K "is_string_of" "is_string_of" (top 30) ft30 dt30) (qt34 : Gf K "whole_number" "whole_number" (top 34) ft34 dt34) (qt35 : Gf K "is_time" "is_time" (top 35) ft35 dt35) (qt36 : Gf K "is_strings" "is_strings" (top 36) ft36 dt36) (qt37 : Gf K "is_right_claims" "is_right" (top 37) ft37 dt37) (qt39 : Gf K "right_claims" "right_claims" (top 39) ft39 dt39) (qt40 : Gf K "starts_after" "starts_after" (top 40) ft40 dt40) (qt41 : Gf K "ends_by" "ends_by" (top 41) ft41 dt41) (qt42 : Gf K "is_from" "is_from" (top 42) ft42 dt42) (qt43 : Gf K "is_for" "is_for" (top 43) ft43 dt43) (qt45 : Gf K "is_right_header" "is_right" (top 45) ft45 dt45) (qt47 : Gf K "right_header" "right_header" (top 47) ft47 dt47) (qt48 : Gf K "kid_of" "kid_of" (top 48) ft48 dt48) (qt54 : Gf K "turned" "turned" (top 54) ft54 dt54) (qt55 : Gf K "bytes_of" "bytes_of" (top 55) ft55 dt55) (qt56 : Gf K "padded" "padded" (top 56) ft56 dt56) (qt57 : Gf K "spread_words" "spread_words" (top 57) ft57 dt57) (qt58 : Gf K "state_behind" "state_behind" (top 58) ft58 dt58) (qt59 : Gf K "sha256" "sha256" (top 59) ft59 dt59) (qt62 : Gf K "hs256" "hs256" (top 62) ft62 dt62) (qt64 : Gf K "read_rows" "read_rows" (top 64) ft64 dt64) (qt65 : Gf K "key_named" "key_named" (top 65) ft65 dt65) (qt69 : Gf K "read_token" "read_token" (top 69) ft69 dt69) (qt81 : Gf K "claims_fault" "claims_fault" (top 81) ft81 dt81) (qt82 : Gf K "first_fault" "first_fault" (top 82) ft82 dt82) (qt88 : Gf K "is_wanted_length" "is_wanted_length" (top 88) ft88 dt88) (qt89 : Gf K "wanted" "wanted" (top 89) ft89 dt89) (qt90 : Gf K "tk_check" "tk_check" (top 90) ft90 dt90) (qm23_0 : Mf K CV "__init__" "Value.__init__" (inClass (top 23) 0) fm23_0 dm23_0) (pgCV : PySem.W.plainGet K CV Str.empty = true) (hdCV : PySem.W.hasDictIn K CV = true) (poCV : PySem.W.plainOver K CV = true) (saCV : PySem.W.findIn K (.ref CV) "__setattr__" = some (some (.builtin "object.__setattr__"))) (mkCV : PySem.W.makesIn K CV = true) (kcCV : PySem.W.keepIn K (.ref CV) = true) (nCV_kind : PySem.W.findIn K (.ref CV) "kind" = some none) (nCV_inner : PySem.W.findIn K (.ref CV) "inner" = some none) (nCV_begin : PySem.W.findIn K (.ref CV) "begin" = some none) (nCV_end : PySem.W.findIn K (.ref CV) "end" = some none) (qm24_0 : Mf K CR "__init__" "Reader.__init__" (inClass (top 24) 0) fm24_0 dm24_0) (qm24_1 : Mf K CR "next_byte" "Reader.next_byte" (inClass (top 24) 1) fm24_1 dm24_1) (qm24_2 : Mf K CR "passes" "Reader.passes" (inClass (top 24) 2) fm24_2 dm24_2) (qm24_3 : Mf K CR "take" "Reader.take" (inClass (top 24) 3) fm24_3 dm24_3) (qm24_4 : Mf K CR "skip_blanks" "Reader.skip_blanks" (inClass (top 24) 4) fm24_4 dm24_4) (qm24_5 : Mf K CR "read_text" "Reader.read_text" (inClass (top 24) 5) fm24_5 dm24_5) (qm24_6 : Mf K CR "read_value" "Reader.read_value" (inClass (top 24) 6) fm24_6 dm24_6) (qm24_7 : Mf K CR "read_inner" "Reader.read_inner" (inClass (top 24) 7) fm24_7 dm24_7) (qm24_8 : Mf K CR "read_nest" "Reader.read_nest" (inClass (top 24) 8) fm24_8 dm24_8) (qm24_9 : Mf K CR "read_array" "Reader.read_array" (inClass (top 24) 9) fm24_9 dm24_9) (qm24_10 : Mf K CR "read_object" "Reader.read_object" (inClass (top 24) 10) fm24_10 dm24_10) (qm24_11 : Mf K CR "read_member" "Reader.read_member" (inClass (top 24) 11) fm24_11 dm24_11) (qm24_12 : Mf K CR "read_word" "Reader.read_word" (inClass (top 24) 12) fm24_12 dm24_12) (qm24_13 : Mf K CR "read_number" "Reader.read_number" (inClass (top 24) 13) fm24_13 dm24_13) (qm24_14 : Mf K CR "read_digits" "Reader.read_digits" (inClass (top 24) 14) fm24_14 dm24_14) (qm24_15 : Mf K CR "read_string" "Reader.read_string" (inClass (top 24) 15) fm24_15 dm24_15) (qm24_16 : Mf K CR "read_sign" "Reader.read_sign" (inClass (top 24) 16) fm24_16 dm24_16) (qm24_17 : Mf K CR "read_escape" "Reader.read_escape" (inClass (top 24) 17) fm24_17 dm24_17) (qm24_18 : Mf K CR "read_code" "Reader.read_code" (inClass (top 24) 18) fm24_18 dm24_18) (qm24_19 : Mf K CR "read_four" "Reader.read_four" (inClass (top 24) 19) fm24_19 dm24_19) (pgCR : PySem.W.plainGet K CR Str.empty = true) (hdCR : PySem.W.hasDictIn K CR = true) (poCR : PySem.W.plainOver K CR = true) (saCR : PySem.W.findIn K (.ref CR) "__setattr__" = some (some (.builtin "object.__setattr__"))) (mkCR : PySem.W.makesIn K CR = true) (kcCR : PySem.W.keepIn K (.ref CR) = true) (nCR_text : PySem.W.findIn K (.ref CR) "text" = some none) (nCR_place : PySem.W.findIn K (.ref CR) "place" = some none) (nCR_count : PySem.W.findIn K (.ref CR) "count" = some none) (qm68_0 : Mf K CT "__init__" "Token.__init__" (inClass (top 68) 0) fm68_0 dm68_0) (pgCT : PySem.W.plainGet K CT Str.empty = true) (hdCT : PySem.W.hasDictIn K CT = true) (poCT : PySem.W.plainOver K CT = true) (saCT : PySem.W.findIn K (.ref CT) "__setattr__" = some (some (.builtin "object.__setattr__"))) (mkCT : PySem.W.makesIn K CT = true) (kcCT : PySem.W.keepIn K (.ref CT) = true) (nCT_header : PySem.W.findIn K (.ref CT) "header" = some none) (nCT_claims : PySem.W.findIn K (.ref CT) "claims" = some none) (nCT_signature : PySem.W.findIn K (.ref CT) "signature" = some none) (nCT_signed : PySem.W.findIn K (.ref CT) "signed" = some none) (ex : PySem.W.excIn K CN [.type "ValueError", .type "Exception", .type "BaseException", .type "object"] "ValueError.__new__" = true) (g0 : PySem.W.nsIn K mainGlobals "NO_BYTE" = some (some (.int (-1) t0))) (g1 : PySem.W.nsIn K mainGlobals "QUOTE" = some (some (.int (34) t1))) (g2 : PySem.W.nsIn K mainGlobals "BACKSLASH" = some (some (.int (92) t2))) (g3 : PySem.W.nsIn K mainGlobals "MOST_DEEP" = some (some (.int (16) t3))) (g4 : PySem.W.nsIn K mainGlobals "POINT" = some (some (.int (46) t4))) (g5 : PySem.W.nsIn K mainGlobals "WRONG_ARGUMENTS" = some (some (.int (-2) t5))) (g6 : PySem.W.nsIn K mainGlobals "NOT_WRITTEN_SO" = some (some (.int (-3) t6))) (g7 : PySem.W.nsIn K mainGlobals "NUMBERS_BELOW" = some (some (.int (9007199254740992) t7))) (g8 : PySem.W.nsIn K mainGlobals "MOST_DIGITS" = some (some (.int (16) t8))) (g9 : PySem.W.nsIn K mainGlobals "LONGEST_KEY" = some (some (.int (64) t9))) (g10 : PySem.W.nsIn K mainGlobals "BLOCK" = some (some (.int (64) t10))) (g11 : PySem.W.nsIn K mainGlobals "WORD" = some (some (.int (4294967295) t11))) (g12 : PySem.W.nsIn K mainGlobals "NOT_WANTED" = some (some (.int (-1) t12))) (g13 : PySem.W.nsIn K mainGlobals "LONGEST_WANTED" = some (some (.int (1024) t13))) (g14 : PySem.W.nsIn K mainGlobals "NOTHING_WRONG" = some (some (.int (0) t14))) (g15 : PySem.W.nsIn K mainGlobals "NO_TOKEN" = some (some (.int (1) t15))) (g16 : PySem.W.nsIn K mainGlobals "HEADER_NOT_RIGHT" = some (some (.int (2) t16))) (g17 : PySem.W.nsIn K mainGlobals "NO_KEY" = some (some (.int (3) t17))) (g18 : PySem.W.nsIn K mainGlobals "OTHER_SIGNATURE" = some (some (.int (4) t18))) (g19 : PySem.W.nsIn K mainGlobals "CLAIMS_NOT_RIGHT" = some (some (.int (5) t19))) (g20 : PySem.W.nsIn K mainGlobals "TOO_EARLY" = some (some (.int (6) t20))) (g21 : PySem.W.nsIn K mainGlobals "TOO_LATE" = some (some (.int (7) t21))) (g22 : PySem.W.nsIn K mainGlobals "OTHER_ISSUER" = some (some (.int (8) t22))) (g23 : PySem.W.nsIn K mainGlobals "OTHER_AUDIENCE" = some (some (.int (9) t23))) (g24 : PySem.W.nsIn K mainGlobals "ARRAY" = some (some (.str "array" t24))) (g25 : PySem.W.nsIn K mainGlobals "OBJECT" = some (some (.str "object" t25))) (g26 : PySem.W.nsIn K mainGlobals "STRING" = some (some (.str "string" t26))) (g27 : PySem.W.nsIn K mainGlobals "NUMBER" = some (some (.str "number" t27))) (u_BLANKS : PySem.W.nsIn K mainGlobals "BLANKS" = some (some (.ref aB))) (ul_BLANKS : K.lookup aB = some ⟨.type "tuple", u_BLANKSd, .seq u_BLANKSi u_BLANKSn, u_BLANKSs⟩) (uv_BLANKS : Z3 [32, 9, 10, 13] u_BLANKSi.toList = true) (u_FIRST_STATE : PySem.W.nsIn K mainGlobals "FIRST_STATE" = some (some (.ref aF))) (ul_FIRST_STATE : K.lookup aF = some ⟨.type "tuple", u_FIRST_STATEd, .seq u_FIRST_STATEi u_FIRST_STATEn, u_FIRST_STATEs⟩) (uv_FIRST_STATE : Z3 Sv20.begun u_FIRST_STATEi.toList = true) (u_CONSTANTS : PySem.W.nsIn K mainGlobals "CONSTANTS" = some (some (.ref aC))) (ul_CONSTANTS : K.lookup aC = some ⟨.type "tuple", u_CONSTANTSd, .seq u_CONSTANTSi u_CONSTANTSn, u_CONSTANTSs⟩) (uv_CONSTANTS : Z3 Sv20.rounds u_CONSTANTSi.toList = true) (u_LONG_FORMS : PySem.W.nsIn K mainGlobals "LONG_FORMS" = some (some (.ref aL))) (ul_LONG_FORMS : K.lookup aL = some ⟨.type "tuple", u_LONG_FORMSd, .seq #[.ref e_LONG_FORMS0, .ref e_LONG_FORMS1, .ref e_LONG_FORMS2, .ref e_LONG_FORMS3, .ref e_LONG_FORMS4, .ref e_LONG_FORMS5, .ref e_LONG_FORMS6, .ref e_LONG_FORMS7] u_LONG_FORMSn, u_LONG_FORMSs⟩) (vl_e_LONG_FORMS0 : K.lookup e_LONG_FORMS0 = some ⟨.type "tuple", v_e_LONG_FORMS0d, .seq v_e_LONG_FORMS0i v_e_LONG_FORMS0n, v_e_LONG_FORMS0s⟩) (vv_e_LONG_FORMS0 : Z3 [194, 223, 128, 191, 2] v_e_LONG_FORMS0i.toList = true) (vl_e_LONG_FORMS1 : K.lookup e_LONG_FORMS1 = some ⟨.type "tuple", v_e_LONG_FORMS1d, .seq v_e_LONG_FORMS1i v_e_LONG_FORMS1n, v_e_LONG_FORMS1s⟩) (vv_e_LONG_FORMS1 : Z3 [224, 224, 160, 191, 3] v_e_LONG_FORMS1i.toList = true) (vl_e_LONG_FORMS2 : K.lookup e_LONG_FORMS2 = some ⟨.type "tuple", v_e_LONG_FORMS2d, .seq v_e_LONG_FORMS2i v_e_LONG_FORMS2n, v_e_LONG_FORMS2s⟩) (vv_e_LONG_FORMS2 : Z3 [225, 236, 128, 191, 3] v_e_LONG_FORMS2i.toList = true) (vl_e_LONG_FORMS3 : K.lookup e_LONG_FORMS3 = some ⟨.type "tuple", v_e_LONG_FORMS3d, .seq v_e_LONG_FORMS3i v_e_LONG_FORMS3n, v_e_LONG_FORMS3s⟩) (vv_e_LONG_FORMS3 : Z3 [237, 237, 128, 159, 3] v_e_LONG_FORMS3i.toList = true) (vl_e_LONG_FORMS4 : K.lookup e_LONG_FORMS4 = some ⟨.type "tuple", v_e_LONG_FORMS4d, .seq v_e_LONG_FORMS4i v_e_LONG_FORMS4n, v_e_LONG_FORMS4s⟩) (vv_e_LONG_FORMS4 : Z3 [238, 239, 128, 191, 3] v_e_LONG_FORMS4i.toList = true) (vl_e_LONG_FORMS5 : K.lookup e_LONG_FORMS5 = some ⟨.type "tuple", v_e_LONG_FORMS5d, .seq v_e_LONG_FORMS5i v_e_LONG_FORMS5n, v_e_LONG_FORMS5s⟩) (vv_e_LONG_FORMS5 : Z3 [240, 240, 144, 191, 4] v_e_LONG_FORMS5i.toList = true) (vl_e_LONG_FORMS6 : K.lookup e_LONG_FORMS6 = some ⟨.type "tuple", v_e_LONG_FORMS6d, .seq v_e_LONG_FORMS6i v_e_LONG_FORMS6n, v_e_LONG_FORMS6s⟩) (vv_e_LONG_FORMS6 : Z3 [241, 243, 128, 191, 4] v_e_LONG_FORMS6i.toList = true) (vl_e_LONG_FORMS7 : K.lookup e_LONG_FORMS7 = some ⟨.type "tuple", v_e_LONG_FORMS7d, .seq v_e_LONG_FORMS7i v_e_LONG_FORMS7n, v_e_LONG_FORMS7s⟩) (vv_e_LONG_FORMS7 : Z3 [244, 244, 128, 143, 4] v_e_LONG_FORMS7i.toList = true) (d_ESCAPES : PySem.W.nsIn K mainGlobals "ESCAPES" = some (some (.ref aE))) (dl_ESCAPES : K.lookup aE = some ⟨.type "dict", none, .dict d_ESCAPESe d_ESCAPESp, #[]⟩) (dv_ESCAPES : J.dOk J.escs d_ESCAPESe.toList = true) (dn_ESCAPES : (aE == sysModules) = false) (d_KINDS : PySem.W.nsIn K mainGlobals "KINDS" = some (some (.ref aK))) (dl_KINDS : K.lookup aK = some ⟨.type "dict", none, .dict d_KINDSe d_KINDSp, #[]⟩) (dv_KINDS : J.sOk J.kinds d_KINDSe.toList = true) (dn_KINDS : (aK == sysModules) = false) (z_len : PySem.W.nsIn K mainGlobals "len" = some none) (z_ord : PySem.W.nsIn K mainGlobals "ord" = some none) (z_any : PySem.W.nsIn K mainGlobals "any" = some none) (z_tuple : PySem.W.nsIn K mainGlobals "tuple" = some none) (z_all : PySem.W.nsIn K mainGlobals "all" = some none) (z_range : PySem.W.nsIn K mainGlobals "range" = some none) (z_zip : PySem.W.nsIn K mainGlobals "zip" = some none) (z_list : PySem.W.nsIn K mainGlobals "list" = some none) (z_enumerate : PySem.W.nsIn K mainGlobals "enumerate" = some none) :
    ∃ fd : FuncData, (∀ (s : Shared) (us : List Value), us.length = (["now", "slack", "i", "a", "token", "keys", "iss", "aud"] : List Str).length -> BindsTo s fd ⟨us, []⟩ ((["now", "slack", "i", "a", "token", "keys", "iss", "aud"] : List Str).zip us)) /\ ∀ base : Heap, K.In base -> base.Ns mainGlobals mg -> FnOk P w K mg base CX0 94 fa fd ["now", "slack", "i", "a", "token", "keys", "iss", "aud"] (J.spCheck K) := by
  have e := hfa.symm.trans (PySem.W.mg_of X Gm qt90.a);cases e;obtain ⟨_, _, kV, dc, pm, an, cd, ct, _, rfl, _, _⟩ := qt90.F.ex;have clCV : Cls K CV := ⟨pgCV, hdCV, poCV, saCV⟩;have MkCV : Mk K CV _ := ⟨mkCV, qm23_0.a, qm23_0.i, kcCV⟩;have clCR : Cls K CR := ⟨pgCR, hdCR, poCR, saCR⟩;have MkCR : Mk K CR _ := ⟨mkCR, qm24_0.a, qm24_0.i, kcCR⟩;have clCT : Cls K CT := ⟨pgCT, hdCT, poCT, saCT⟩;have MkCT : Mk K CT _ := ⟨mkCT, qm68_0.a, qm68_0.i, kcCT⟩;have G0 : ∃ t, mg "NO_BYTE" = some (.int (-1) t) := ⟨_, PySem.W.mg_of X Gm g0⟩;have G1 : ∃ t, mg "QUOTE" = some (.int (34) t) := ⟨_, PySem.W.mg_of X Gm g1⟩;have G2 : ∃ t, mg "BACKSLASH" = some (.int (92) t) := ⟨_, PySem.W.mg_of X Gm g2⟩;have G3 : ∃ t, mg "MOST_DEEP" = some (.int (16) t) := ⟨_, PySem.W.mg_of X Gm g3⟩;have G4 : ∃ t, mg "POINT" = some (.int (46) t) := ⟨_, PySem.W.mg_of X Gm g4⟩;have G5 : ∃ t, mg "WRONG_ARGUMENTS" = some (.int (-2) t) := ⟨_, PySem.W.mg_of X Gm g5⟩;have G6 : ∃ t, mg "NOT_WRITTEN_SO" = some (.int (-3) t) := ⟨_, PySem.W.mg_of X Gm g6⟩;have G7 : ∃ t, mg "NUMBERS_BELOW" = some (.int (9007199254740992) t) := ⟨_, PySem.W.mg_of X Gm g7⟩;have G8 : ∃ t, mg "MOST_DIGITS" = some (.int (16) t) := ⟨_, PySem.W.mg_of X Gm g8⟩;have G9 : ∃ t, mg "LONGEST_KEY" = some (.int (64) t) := ⟨_, PySem.W.mg_of X Gm g9⟩;have G10 : ∃ t, mg "BLOCK" = some (.int (64) t) := ⟨_, PySem.W.mg_of X Gm g10⟩;have G11 : ∃ t, mg "WORD" = some (.int (4294967295) t) := ⟨_, PySem.W.mg_of X Gm g11⟩;have G12 : ∃ t, mg "NOT_WANTED" = some (.int (-1) t) := ⟨_, PySem.W.mg_of X Gm g12⟩;have G13 : ∃ t, mg "LONGEST_WANTED" = some (.int (1024) t) := ⟨_, PySem.W.mg_of X Gm g13⟩;have G14 : ∃ t, mg "NOTHING_WRONG" = some (.int (0) t) := ⟨_, PySem.W.mg_of X Gm g14⟩;have G15 : ∃ t, mg "NO_TOKEN" = some (.int (1) t) := ⟨_, PySem.W.mg_of X Gm g15⟩;have G16 : ∃ t, mg "HEADER_NOT_RIGHT" = some (.int (2) t) := ⟨_, PySem.W.mg_of X Gm g16⟩;have G17 : ∃ t, mg "NO_KEY" = some (.int (3) t) := ⟨_, PySem.W.mg_of X Gm g17⟩;have G18 : ∃ t, mg "OTHER_SIGNATURE" = some (.int (4) t) := ⟨_, PySem.W.mg_of X Gm g18⟩;have G19 : ∃ t, mg "CLAIMS_NOT_RIGHT" = some (.int (5) t) := ⟨_, PySem.W.mg_of X Gm g19⟩;have G20 : ∃ t, mg "TOO_EARLY" = some (.int (6) t) := ⟨_, PySem.W.mg_of X Gm g20⟩;have G21 : ∃ t, mg "TOO_LATE" = some (.int (7) t) := ⟨_, PySem.W.mg_of X Gm g21⟩;have G22 : ∃ t, mg "OTHER_ISSUER" = some (.int (8) t) := ⟨_, PySem.W.mg_of X Gm g22⟩;have G23 : ∃ t, mg "OTHER_AUDIENCE" = some (.int (9) t) := ⟨_, PySem.W.mg_of X Gm g23⟩;have G24 : ∃ t, mg "ARRAY" = some (.str "array" t) := ⟨_, PySem.W.mg_of X Gm g24⟩;have G25 : ∃ t, mg "OBJECT" = some (.str "object" t) := ⟨_, PySem.W.mg_of X Gm g25⟩;have G26 : ∃ t, mg "STRING" = some (.str "string" t) := ⟨_, PySem.W.mg_of X Gm g26⟩;have G27 : ∃ t, mg "NUMBER" = some (.str "number" t) := ⟨_, PySem.W.mg_of X Gm g27⟩;have U_BLANKS : ∀ H, SqT K H aB (nv [32, 9, 10, 13]) := fun H => J.tup_mk ul_BLANKS rfl rfl uv_BLANKS (by decide +kernel) H
  have U_FIRST_STATE : ∀ H, SqT K H aF (nv Sv20.begun) := fun H => J.tup_mk ul_FIRST_STATE rfl rfl uv_FIRST_STATE (by decide +kernel) H
  have U_CONSTANTS : ∀ H, SqT K H aC (nv Sv20.rounds) := fun H => J.tup_mk ul_CONSTANTS rfl rfl uv_CONSTANTS (by decide +kernel) H
  have Z_len := PySem.W.mg_none_of X Gm z_len;have Z_ord := PySem.W.mg_none_of X Gm z_ord;have Z_any := PySem.W.mg_none_of X Gm z_any;have Z_tuple := PySem.W.mg_none_of X Gm z_tuple;have Z_all := PySem.W.mg_none_of X Gm z_all;have Z_range := PySem.W.mg_none_of X Gm z_range;have Z_zip := PySem.W.mg_none_of X Gm z_zip;have Z_list := PySem.W.mg_none_of X Gm z_list;have Z_enumerate := PySem.W.mg_none_of X Gm z_enumerate;have F1 := qt1.F;have b1 := F1.binds (ps := ["sign"]) fun _ _ _ _ _ _ us hl => by (repeat (obtain ⟨_, _, rfl, h⟩ := J.lenS hl; clear hl; have hl := h; clear h)); cases J.len0 hl; rfl
  have m1 := PySem.W.mg_of X Gm qt1.a;have F2 := qt2.F;have b2 := F2.binds (ps := ["signs"]) fun _ _ _ _ _ _ us hl => by (repeat (obtain ⟨_, _, rfl, h⟩ := J.lenS hl; clear hl; have hl := h; clear h)); cases J.len0 hl; rfl
  have m2 := PySem.W.mg_of X Gm qt2.a;have F5 := qt5.F;have b5 := F5.binds (ps := ["text", "place"]) fun _ _ _ _ _ _ us hl => by (repeat (obtain ⟨_, _, rfl, h⟩ := J.lenS hl; clear hl; have hl := h; clear h)); cases J.len0 hl; rfl
  have m5 := PySem.W.mg_of X Gm qt5.a;have F6 := qt6.F;have b6 := F6.binds (ps := ["text", "place"]) fun _ _ _ _ _ _ us hl => by (repeat (obtain ⟨_, _, rfl, h⟩ := J.lenS hl; clear hl; have hl := h; clear h)); cases J.len0 hl; rfl
  have m6 := PySem.W.mg_of X Gm qt6.a;have F7 := qt7.F;have b7 := F7.binds (ps := ["code"]) fun _ _ _ _ _ _ us hl => by (repeat (obtain ⟨_, _, rfl, h⟩ := J.lenS hl; clear hl; have hl := h; clear h)); cases J.len0 hl; rfl
  have m7 := PySem.W.mg_of X Gm qt7.a;have F21 := qt21.F;have b21 := F21.binds (ps := ["byte"]) fun _ _ _ _ _ _ us hl => by (repeat (obtain ⟨_, _, rfl, h⟩ := J.lenS hl; clear hl; have hl := h; clear h)); cases J.len0 hl; rfl
  have m21 := PySem.W.mg_of X Gm qt21.a;have F22 := qt22.F;have b22 := F22.binds (ps := ["byte"]) fun _ _ _ _ _ _ us hl => by (repeat (obtain ⟨_, _, rfl, h⟩ := J.lenS hl; clear hl; have hl := h; clear h)); cases J.len0 hl; rfl
  have m22 := PySem.W.mg_of X Gm qt22.a;have F25 := qt25.F;have b25 := F25.binds (ps := ["text"]) fun _ _ _ _ _ _ us hl => by (repeat (obtain ⟨_, _, rfl, h⟩ := J.lenS hl; clear hl; have hl := h; clear h)); cases J.len0 hl; rfl
  have m25 := PySem.W.mg_of X Gm qt25.a;have F27 := qt27.F;have b27 := F27.binds (ps := ["text"]) fun _ _ _ _ _ _ us hl => by (repeat (obtain ⟨_, _, rfl, h⟩ := J.lenS hl; clear hl; have hl := h; clear h)); cases J.len0 hl; rfl
  have m27 := PySem.W.mg_of X Gm qt27.a;have F28 := qt28.F;have b28 := F28.binds (ps := ["members", "name"]) fun _ _ _ _ _ _ us hl => by (repeat (obtain ⟨_, _, rfl, h⟩ := J.lenS hl; clear hl; have hl := h; clear h)); cases J.len0 hl; rfl
  have m28 := PySem.W.mg_of X Gm qt28.a;have F29 := qt29.F;have b29 := F29.binds (ps := ["value"]) fun _ _ _ _ _ _ us hl => by (repeat (obtain ⟨_, _, rfl, h⟩ := J.lenS hl; clear hl; have hl := h; clear h)); cases J.len0 hl; rfl
  have m29 := PySem.W.mg_of X Gm qt29.a;have F30 := qt30.F;have b30 := F30.binds (ps := ["value", "text"]) fun _ _ _ _ _ _ us hl => by (repeat (obtain ⟨_, _, rfl, h⟩ := J.lenS hl; clear hl; have hl := h; clear h)); cases J.len0 hl; rfl
  have m30 := PySem.W.mg_of X Gm qt30.a;have F34 := qt34.F;have b34 := F34.binds (ps := ["digits"]) fun _ _ _ _ _ _ us hl => by (repeat (obtain ⟨_, _, rfl, h⟩ := J.lenS hl; clear hl; have hl := h; clear h)); cases J.len0 hl; rfl
  have m34 := PySem.W.mg_of X Gm qt34.a;have F35 := qt35.F;have b35 := F35.binds (ps := ["value"]) fun _ _ _ _ _ _ us hl => by (repeat (obtain ⟨_, _, rfl, h⟩ := J.lenS hl; clear hl; have hl := h; clear h)); cases J.len0 hl; rfl
  have m35 := PySem.W.mg_of X Gm qt35.a;have F36 := qt36.F;have b36 := F36.binds (ps := ["value"]) fun _ _ _ _ _ _ us hl => by (repeat (obtain ⟨_, _, rfl, h⟩ := J.lenS hl; clear hl; have hl := h; clear h)); cases J.len0 hl; rfl
  have m36 := PySem.W.mg_of X Gm qt36.a;have F37 := qt37.F;have b37 := F37.binds (ps := ["members"]) fun _ _ _ _ _ _ us hl => by (repeat (obtain ⟨_, _, rfl, h⟩ := J.lenS hl; clear hl; have hl := h; clear h)); cases J.len0 hl; rfl
  have m37 := PySem.W.mg_of X Gm qt37.a;have F39 := qt39.F;have b39 := F39.binds (ps := ["text"]) fun _ _ _ _ _ _ us hl => by (repeat (obtain ⟨_, _, rfl, h⟩ := J.lenS hl; clear hl; have hl := h; clear h)); cases J.len0 hl; rfl
  have m39 := PySem.W.mg_of X Gm qt39.a;have F40 := qt40.F;have b40 := F40.binds (ps := ["claims", "now", "slack"]) fun _ _ _ _ _ _ us hl => by (repeat (obtain ⟨_, _, rfl, h⟩ := J.lenS hl; clear hl; have hl := h; clear h)); cases J.len0 hl; rfl
  have m40 := PySem.W.mg_of X Gm qt40.a;have F41 := qt41.F;have b41 := F41.binds (ps := ["claims", "now", "slack"]) fun _ _ _ _ _ _ us hl => by (repeat (obtain ⟨_, _, rfl, h⟩ := J.lenS hl; clear hl; have hl := h; clear h)); cases J.len0 hl; rfl
  have m41 := PySem.W.mg_of X Gm qt41.a;have F42 := qt42.F;have b42 := F42.binds (ps := ["claims", "iss"]) fun _ _ _ _ _ _ us hl => by (repeat (obtain ⟨_, _, rfl, h⟩ := J.lenS hl; clear hl; have hl := h; clear h)); cases J.len0 hl; rfl
  have m42 := PySem.W.mg_of X Gm qt42.a;have F43 := qt43.F;have b43 := F43.binds (ps := ["claims", "aud"]) fun _ _ _ _ _ _ us hl => by (repeat (obtain ⟨_, _, rfl, h⟩ := J.lenS hl; clear hl; have hl := h; clear h)); cases J.len0 hl; rfl
  have m43 := PySem.W.mg_of X Gm qt43.a;have F45 := qt45.F;have b45 := F45.binds (ps := ["members"]) fun _ _ _ _ _ _ us hl => by (repeat (obtain ⟨_, _, rfl, h⟩ := J.lenS hl; clear hl; have hl := h; clear h)); cases J.len0 hl; rfl
  have m45 := PySem.W.mg_of X Gm qt45.a;have F47 := qt47.F;have b47 := F47.binds (ps := ["text"]) fun _ _ _ _ _ _ us hl => by (repeat (obtain ⟨_, _, rfl, h⟩ := J.lenS hl; clear hl; have hl := h; clear h)); cases J.len0 hl; rfl
  have m47 := PySem.W.mg_of X Gm qt47.a;have F48 := qt48.F;have b48 := F48.binds (ps := ["header"]) fun _ _ _ _ _ _ us hl => by (repeat (obtain ⟨_, _, rfl, h⟩ := J.lenS hl; clear hl; have hl := h; clear h)); cases J.len0 hl; rfl
  have m48 := PySem.W.mg_of X Gm qt48.a;have F54 := qt54.F;have b54 := F54.binds (ps := ["word", "steps"]) fun _ _ _ _ _ _ us hl => by (repeat (obtain ⟨_, _, rfl, h⟩ := J.lenS hl; clear hl; have hl := h; clear h)); cases J.len0 hl; rfl
  have m54 := PySem.W.mg_of X Gm qt54.a;have F55 := qt55.F;have b55 := F55.binds (ps := ["number", "size"]) fun _ _ _ _ _ _ us hl => by (repeat (obtain ⟨_, _, rfl, h⟩ := J.lenS hl; clear hl; have hl := h; clear h)); cases J.len0 hl; rfl
  have m55 := PySem.W.mg_of X Gm qt55.a;have F56 := qt56.F;have b56 := F56.binds (ps := ["data"]) fun _ _ _ _ _ _ us hl => by (repeat (obtain ⟨_, _, rfl, h⟩ := J.lenS hl; clear hl; have hl := h; clear h)); cases J.len0 hl; rfl
  have m56 := PySem.W.mg_of X Gm qt56.a;have F57 := qt57.F;have b57 := F57.binds (ps := ["block"]) fun _ _ _ _ _ _ us hl => by (repeat (obtain ⟨_, _, rfl, h⟩ := J.lenS hl; clear hl; have hl := h; clear h)); cases J.len0 hl; rfl
  have m57 := PySem.W.mg_of X Gm qt57.a;have F58 := qt58.F;have b58 := F58.binds (ps := ["state", "block"]) fun _ _ _ _ _ _ us hl => by (repeat (obtain ⟨_, _, rfl, h⟩ := J.lenS hl; clear hl; have hl := h; clear h)); cases J.len0 hl; rfl
  have m58 := PySem.W.mg_of X Gm qt58.a;have F59 := qt59.F;have b59 := F59.binds (ps := ["data"]) fun _ _ _ _ _ _ us hl => by (repeat (obtain ⟨_, _, rfl, h⟩ := J.lenS hl; clear hl; have hl := h; clear h)); cases J.len0 hl; rfl
  have m59 := PySem.W.mg_of X Gm qt59.a;have F62 := qt62.F;have b62 := F62.binds (ps := ["key", "data"]) fun _ _ _ _ _ _ us hl => by (repeat (obtain ⟨_, _, rfl, h⟩ := J.lenS hl; clear hl; have hl := h; clear h)); cases J.len0 hl; rfl
  have m62 := PySem.W.mg_of X Gm qt62.a;have F64 := qt64.F;have b64 := F64.binds (ps := ["keys"]) fun _ _ _ _ _ _ us hl => by (repeat (obtain ⟨_, _, rfl, h⟩ := J.lenS hl; clear hl; have hl := h; clear h)); cases J.len0 hl; rfl
  have m64 := PySem.W.mg_of X Gm qt64.a;have F65 := qt65.F;have b65 := F65.binds (ps := ["rows", "name"]) fun _ _ _ _ _ _ us hl => by (repeat (obtain ⟨_, _, rfl, h⟩ := J.lenS hl; clear hl; have hl := h; clear h)); cases J.len0 hl; rfl
  have m65 := PySem.W.mg_of X Gm qt65.a;have F69 := qt69.F;have b69 := F69.binds (ps := ["text"]) fun _ _ _ _ _ _ us hl => by (repeat (obtain ⟨_, _, rfl, h⟩ := J.lenS hl; clear hl; have hl := h; clear h)); cases J.len0 hl; rfl
  have m69 := PySem.W.mg_of X Gm qt69.a;have F81 := qt81.F;have b81 := F81.binds (ps := ["claims", "now", "slack", "iss", "aud"]) fun _ _ _ _ _ _ us hl => by (repeat (obtain ⟨_, _, rfl, h⟩ := J.lenS hl; clear hl; have hl := h; clear h)); cases J.len0 hl; rfl
  have m81 := PySem.W.mg_of X Gm qt81.a;have F82 := qt82.F;have b82 := F82.binds (ps := ["text", "rows", "now", "slack", "iss", "aud"]) fun _ _ _ _ _ _ us hl => by (repeat (obtain ⟨_, _, rfl, h⟩ := J.lenS hl; clear hl; have hl := h; clear h)); cases J.len0 hl; rfl
  have m82 := PySem.W.mg_of X Gm qt82.a;have F88 := qt88.F;have b88 := F88.binds (ps := ["length"]) fun _ _ _ _ _ _ us hl => by (repeat (obtain ⟨_, _, rfl, h⟩ := J.lenS hl; clear hl; have hl := h; clear h)); cases J.len0 hl; rfl
  have m88 := PySem.W.mg_of X Gm qt88.a;have F89 := qt89.F;have b89 := F89.binds (ps := ["length", "data"]) fun _ _ _ _ _ _ us hl => by (repeat (obtain ⟨_, _, rfl, h⟩ := J.lenS hl; clear hl; have hl := h; clear h)); cases J.len0 hl; rfl
  have m89 := PySem.W.mg_of X Gm qt89.a;have F90 := qt90.F;have m90 := PySem.W.mg_of X Gm qt90.a;have F23_0 := qm23_0.F;have b23_0 := F23_0.binds (ps := ["self", "kind", "inner", "begin", "end"]) fun _ _ _ _ _ _ us hl => by (repeat (obtain ⟨_, _, rfl, h⟩ := J.lenS hl; clear hl; have hl := h; clear h)); cases J.len0 hl; rfl
  have D23_0 : J.MD K CV "__init__" "Value.__init__" (inClass (top 23) 0) ["self", "kind", "inner", "begin", "end"] _ _ := ⟨F23_0, ⟨qm23_0.a, qm23_0.i, qm23_0.F.kp⟩, b23_0⟩;have F24_0 := qm24_0.F;have b24_0 := F24_0.binds (ps := ["self", "text"]) fun _ _ _ _ _ _ us hl => by (repeat (obtain ⟨_, _, rfl, h⟩ := J.lenS hl; clear hl; have hl := h; clear h)); cases J.len0 hl; rfl
  have D24_0 : J.MD K CR "__init__" "Reader.__init__" (inClass (top 24) 0) ["self", "text"] _ _ := ⟨F24_0, ⟨qm24_0.a, qm24_0.i, qm24_0.F.kp⟩, b24_0⟩;have F24_1 := qm24_1.F;have b24_1 := F24_1.binds (ps := ["self"]) fun _ _ _ _ _ _ us hl => by (repeat (obtain ⟨_, _, rfl, h⟩ := J.lenS hl; clear hl; have hl := h; clear h)); cases J.len0 hl; rfl
  have D24_1 : J.MD K CR "next_byte" "Reader.next_byte" (inClass (top 24) 1) ["self"] _ _ := ⟨F24_1, ⟨qm24_1.a, qm24_1.i, qm24_1.F.kp⟩, b24_1⟩;have F24_2 := qm24_2.F;have b24_2 := F24_2.binds (ps := ["self", "byte"]) fun _ _ _ _ _ _ us hl => by (repeat (obtain ⟨_, _, rfl, h⟩ := J.lenS hl; clear hl; have hl := h; clear h)); cases J.len0 hl; rfl
  have D24_2 : J.MD K CR "passes" "Reader.passes" (inClass (top 24) 2) ["self", "byte"] _ _ := ⟨F24_2, ⟨qm24_2.a, qm24_2.i, qm24_2.F.kp⟩, b24_2⟩;have F24_3 := qm24_3.F;have b24_3 := F24_3.binds (ps := ["self", "byte"]) fun _ _ _ _ _ _ us hl => by (repeat (obtain ⟨_, _, rfl, h⟩ := J.lenS hl; clear hl; have hl := h; clear h)); cases J.len0 hl; rfl
  have D24_3 : J.MD K CR "take" "Reader.take" (inClass (top 24) 3) ["self", "byte"] _ _ := ⟨F24_3, ⟨qm24_3.a, qm24_3.i, qm24_3.F.kp⟩, b24_3⟩;have F24_4 := qm24_4.F;have b24_4 := F24_4.binds (ps := ["self"]) fun _ _ _ _ _ _ us hl => by (repeat (obtain ⟨_, _, rfl, h⟩ := J.lenS hl; clear hl; have hl := h; clear h)); cases J.len0 hl; rfl
  have D24_4 : J.MD K CR "skip_blanks" "Reader.skip_blanks" (inClass (top 24) 4) ["self"] _ _ := ⟨F24_4, ⟨qm24_4.a, qm24_4.i, qm24_4.F.kp⟩, b24_4⟩;have F24_5 := qm24_5.F;have b24_5 := F24_5.binds (ps := ["self"]) fun _ _ _ _ _ _ us hl => by (repeat (obtain ⟨_, _, rfl, h⟩ := J.lenS hl; clear hl; have hl := h; clear h)); cases J.len0 hl; rfl
  have D24_5 : J.MD K CR "read_text" "Reader.read_text" (inClass (top 24) 5) ["self"] _ _ := ⟨F24_5, ⟨qm24_5.a, qm24_5.i, qm24_5.F.kp⟩, b24_5⟩;have F24_6 := qm24_6.F;have b24_6 := F24_6.binds (ps := ["self", "around"]) fun _ _ _ _ _ _ us hl => by (repeat (obtain ⟨_, _, rfl, h⟩ := J.lenS hl; clear hl; have hl := h; clear h)); cases J.len0 hl; rfl
  have D24_6 : J.MD K CR "read_value" "Reader.read_value" (inClass (top 24) 6) ["self", "around"] _ _ := ⟨F24_6, ⟨qm24_6.a, qm24_6.i, qm24_6.F.kp⟩, b24_6⟩;have F24_7 := qm24_7.F;have b24_7 := F24_7.binds (ps := ["self", "kind", "around"]) fun _ _ _ _ _ _ us hl => by (repeat (obtain ⟨_, _, rfl, h⟩ := J.lenS hl; clear hl; have hl := h; clear h)); cases J.len0 hl; rfl
  have D24_7 : J.MD K CR "read_inner" "Reader.read_inner" (inClass (top 24) 7) ["self", "kind", "around"] _ _ := ⟨F24_7, ⟨qm24_7.a, qm24_7.i, qm24_7.F.kp⟩, b24_7⟩;have F24_8 := qm24_8.F;have b24_8 := F24_8.binds (ps := ["self", "kind", "around"]) fun _ _ _ _ _ _ us hl => by (repeat (obtain ⟨_, _, rfl, h⟩ := J.lenS hl; clear hl; have hl := h; clear h)); cases J.len0 hl; rfl
  have D24_8 : J.MD K CR "read_nest" "Reader.read_nest" (inClass (top 24) 8) ["self", "kind", "around"] _ _ := ⟨F24_8, ⟨qm24_8.a, qm24_8.i, qm24_8.F.kp⟩, b24_8⟩;have F24_9 := qm24_9.F;have b24_9 := F24_9.binds (ps := ["self", "around"]) fun _ _ _ _ _ _ us hl => by (repeat (obtain ⟨_, _, rfl, h⟩ := J.lenS hl; clear hl; have hl := h; clear h)); cases J.len0 hl; rfl
  have D24_9 : J.MD K CR "read_array" "Reader.read_array" (inClass (top 24) 9) ["self", "around"] _ _ := ⟨F24_9, ⟨qm24_9.a, qm24_9.i, qm24_9.F.kp⟩, b24_9⟩;have F24_10 := qm24_10.F;have b24_10 := F24_10.binds (ps := ["self", "around"]) fun _ _ _ _ _ _ us hl => by (repeat (obtain ⟨_, _, rfl, h⟩ := J.lenS hl; clear hl; have hl := h; clear h)); cases J.len0 hl; rfl
  have D24_10 : J.MD K CR "read_object" "Reader.read_object" (inClass (top 24) 10) ["self", "around"] _ _ := ⟨F24_10, ⟨qm24_10.a, qm24_10.i, qm24_10.F.kp⟩, b24_10⟩;have F24_11 := qm24_11.F;have b24_11 := F24_11.binds (ps := ["self", "around", "members"]) fun _ _ _ _ _ _ us hl => by (repeat (obtain ⟨_, _, rfl, h⟩ := J.lenS hl; clear hl; have hl := h; clear h)); cases J.len0 hl; rfl
  have D24_11 : J.MD K CR "read_member" "Reader.read_member" (inClass (top 24) 11) ["self", "around", "members"] _ _ := ⟨F24_11, ⟨qm24_11.a, qm24_11.i, qm24_11.F.kp⟩, b24_11⟩;have F24_12 := qm24_12.F;have b24_12 := F24_12.binds (ps := ["self", "word"]) fun _ _ _ _ _ _ us hl => by (repeat (obtain ⟨_, _, rfl, h⟩ := J.lenS hl; clear hl; have hl := h; clear h)); cases J.len0 hl; rfl
  have D24_12 : J.MD K CR "read_word" "Reader.read_word" (inClass (top 24) 12) ["self", "word"] _ _ := ⟨F24_12, ⟨qm24_12.a, qm24_12.i, qm24_12.F.kp⟩, b24_12⟩;have F24_13 := qm24_13.F;have b24_13 := F24_13.binds (ps := ["self"]) fun _ _ _ _ _ _ us hl => by (repeat (obtain ⟨_, _, rfl, h⟩ := J.lenS hl; clear hl; have hl := h; clear h)); cases J.len0 hl; rfl
  have D24_13 : J.MD K CR "read_number" "Reader.read_number" (inClass (top 24) 13) ["self"] _ _ := ⟨F24_13, ⟨qm24_13.a, qm24_13.i, qm24_13.F.kp⟩, b24_13⟩;have F24_14 := qm24_14.F;have b24_14 := F24_14.binds (ps := ["self"]) fun _ _ _ _ _ _ us hl => by (repeat (obtain ⟨_, _, rfl, h⟩ := J.lenS hl; clear hl; have hl := h; clear h)); cases J.len0 hl; rfl
  have D24_14 : J.MD K CR "read_digits" "Reader.read_digits" (inClass (top 24) 14) ["self"] _ _ := ⟨F24_14, ⟨qm24_14.a, qm24_14.i, qm24_14.F.kp⟩, b24_14⟩;have F24_15 := qm24_15.F;have b24_15 := F24_15.binds (ps := ["self"]) fun _ _ _ _ _ _ us hl => by (repeat (obtain ⟨_, _, rfl, h⟩ := J.lenS hl; clear hl; have hl := h; clear h)); cases J.len0 hl; rfl
  have D24_15 : J.MD K CR "read_string" "Reader.read_string" (inClass (top 24) 15) ["self"] _ _ := ⟨F24_15, ⟨qm24_15.a, qm24_15.i, qm24_15.F.kp⟩, b24_15⟩;have F24_16 := qm24_16.F;have b24_16 := F24_16.binds (ps := ["self"]) fun _ _ _ _ _ _ us hl => by (repeat (obtain ⟨_, _, rfl, h⟩ := J.lenS hl; clear hl; have hl := h; clear h)); cases J.len0 hl; rfl
  have D24_16 : J.MD K CR "read_sign" "Reader.read_sign" (inClass (top 24) 16) ["self"] _ _ := ⟨F24_16, ⟨qm24_16.a, qm24_16.i, qm24_16.F.kp⟩, b24_16⟩;have F24_17 := qm24_17.F;have b24_17 := F24_17.binds (ps := ["self"]) fun _ _ _ _ _ _ us hl => by (repeat (obtain ⟨_, _, rfl, h⟩ := J.lenS hl; clear hl; have hl := h; clear h)); cases J.len0 hl; rfl
  have D24_17 : J.MD K CR "read_escape" "Reader.read_escape" (inClass (top 24) 17) ["self"] _ _ := ⟨F24_17, ⟨qm24_17.a, qm24_17.i, qm24_17.F.kp⟩, b24_17⟩;have F24_18 := qm24_18.F;have b24_18 := F24_18.binds (ps := ["self"]) fun _ _ _ _ _ _ us hl => by (repeat (obtain ⟨_, _, rfl, h⟩ := J.lenS hl; clear hl; have hl := h; clear h)); cases J.len0 hl; rfl
  have D24_18 : J.MD K CR "read_code" "Reader.read_code" (inClass (top 24) 18) ["self"] _ _ := ⟨F24_18, ⟨qm24_18.a, qm24_18.i, qm24_18.F.kp⟩, b24_18⟩;have F24_19 := qm24_19.F;have b24_19 := F24_19.binds (ps := ["self"]) fun _ _ _ _ _ _ us hl => by (repeat (obtain ⟨_, _, rfl, h⟩ := J.lenS hl; clear hl; have hl := h; clear h)); cases J.len0 hl; rfl
  have D24_19 : J.MD K CR "read_four" "Reader.read_four" (inClass (top 24) 19) ["self"] _ _ := ⟨F24_19, ⟨qm24_19.a, qm24_19.i, qm24_19.F.kp⟩, b24_19⟩;have F68_0 := qm68_0.F;have b68_0 := F68_0.binds (ps := ["self", "header", "claims", "signature", "signed"]) fun _ _ _ _ _ _ us hl => by (repeat (obtain ⟨_, _, rfl, h⟩ := J.lenS hl; clear hl; have hl := h; clear h)); cases J.len0 hl; rfl
  have D68_0 : J.MD K CT "__init__" "Token.__init__" (inClass (top 68) 0) ["self", "header", "claims", "signature", "signed"] _ _ := ⟨F68_0, ⟨qm68_0.a, qm68_0.i, qm68_0.F.kp⟩, b68_0⟩;have T : J.Txt K mg CR CN aB := ⟨clCR, nCR_text, nCR_place, nCR_count, G0, PySem.W.mg_of X Gm u_BLANKS, U_BLANKS, G1, G2, G3, PySem.W.mg_of X Gm aN, ex, Z_len, Z_ord, Z_any, Z_tuple⟩
  have T5 : J.Txt5 K mg aL aE [e_LONG_FORMS0, e_LONG_FORMS1, e_LONG_FORMS2, e_LONG_FORMS3, e_LONG_FORMS4, e_LONG_FORMS5, e_LONG_FORMS6, e_LONG_FORMS7] := by
    refine ⟨PySem.W.mg_of X Gm u_LONG_FORMS, fun H => .inr ⟨_, _, _, ul_LONG_FORMS, rfl, rfl, (by show 8 <= sizeLine; decide), .cons rfl (.cons rfl (.cons rfl (.cons rfl (.cons rfl (.cons rfl (.cons rfl (.cons rfl .nil)))))))⟩, fun i f a hf ha H => ?_, rfl, PySem.W.mg_of X Gm d_ESCAPES, ⟨dn_ESCAPES, by decide, ⟨_, _, _, dl_ESCAPES, ⟨rfl, rfl, rfl⟩, rfl, dv_ESCAPES⟩⟩⟩
    match i, hf, ha with
    | 0, hf, ha => cases hf; cases ha; exact J.tup_mk vl_e_LONG_FORMS0 rfl rfl vv_e_LONG_FORMS0 (by decide) H
    | 1, hf, ha => cases hf; cases ha; exact J.tup_mk vl_e_LONG_FORMS1 rfl rfl vv_e_LONG_FORMS1 (by decide) H
    | 2, hf, ha => cases hf; cases ha; exact J.tup_mk vl_e_LONG_FORMS2 rfl rfl vv_e_LONG_FORMS2 (by decide) H
    | 3, hf, ha => cases hf; cases ha; exact J.tup_mk vl_e_LONG_FORMS3 rfl rfl vv_e_LONG_FORMS3 (by decide) H
    | 4, hf, ha => cases hf; cases ha; exact J.tup_mk vl_e_LONG_FORMS4 rfl rfl vv_e_LONG_FORMS4 (by decide) H
    | 5, hf, ha => cases hf; cases ha; exact J.tup_mk vl_e_LONG_FORMS5 rfl rfl vv_e_LONG_FORMS5 (by decide) H
    | 6, hf, ha => cases hf; cases ha; exact J.tup_mk vl_e_LONG_FORMS6 rfl rfl vv_e_LONG_FORMS6 (by decide) H
    | 7, hf, ha => cases hf; cases ha; exact J.tup_mk vl_e_LONG_FORMS7 rfl rfl vv_e_LONG_FORMS7 (by decide) H
    | i + 8, hf, ha => cases ha
  have T6 : J.Txt6 K mg CV aK := ⟨PySem.W.mg_of X Gm d_KINDS, ⟨dn_KINDS, by decide, ⟨_, _, _, dl_KINDS, ⟨rfl, rfl, rfl⟩, rfl, dv_KINDS⟩⟩, G24, G25, G26, G27, clCV, nCV_kind, nCV_inner, nCV_begin, nCV_end, PySem.W.mg_of X Gm aCV⟩;have T9 : J.Txt9 mg := ⟨G8, G7, Z_all⟩;have T3x : T3.Txt K mg aF aC := ⟨G10, G11, PySem.W.mg_of X Gm u_FIRST_STATE, PySem.W.mg_of X Gm u_CONSTANTS, U_FIRST_STATE, U_CONSTANTS, Z_range, Z_len, Z_zip, Z_list⟩;have T7 : J.Txt7 K mg CT := ⟨clCT, nCT_header, nCT_claims, nCT_signature, nCT_signed, PySem.W.mg_of X Gm aCT, G4, Z_enumerate⟩;have TF : J.TxtF mg := ⟨G14, G15, G16, G17, G18, G19, G20, G21, G22, G23⟩;refine ⟨PySem.W.fnOf "tk_check" "tk_check" (defArgs (top 90)) (defBody (top 90)) (y3 (top 90)) .none kV dc pm an cd ct, fun s us hu => match us, hu with | [_, _, _, _, _, _, _, _], _ => .of_eq rfl, fun base _ _ => ?_⟩;have call : ∀ {x y : Str} {st : Stmt} {f : Addr} {fd : FuncData} {CX : CXT} {k : Nat} {ps : List Str} {sp : Sp}, Fun K x x st f fd -> FnOk P w K mg base CX k f fd ps sp -> Binds K fd ps [] -> mg y = some (.ref f) -> J.Callee P w K mg base CX y k ps sp := fun F G b m => ⟨_, _, G, F.kp, b, m⟩
  have CLong := call (y := "long_sign_size") F5 (J.ok_long (P := P) (w := w) (base := base) F5 T T5) b5 m5;have CSize := call (y := "sign_size") F6 (J.ok_size F6 CLong) b6 m6;have CUtf := call (y := "utf8_of") F7 (J.ok_utf8 (P := P) (w := w) (base := base) (mg := mg) F7) b7 m7;have CDig := call (y := "is_digit") F21 (J.ok_isdigit (P := P) (w := w) (base := base) F21 T) b21 m21;have CHex := call (y := "hex_of") F22 (J.ok_hex F22 T CDig) b22 m22;have C1 := D24_1.callee (J.ok_next (P := P) (w := w) (base := base) F24_1 T);have C2 := D24_2.callee (J.ok_passes F24_2 T C1);have C3 := D24_3.callee (J.ok_take F24_3 T C2);have C4 := D24_4.callee (J.ok_skip F24_4 T C1);have C18 := D24_19.callee (J.ok_four (P := P) (w := w) (base := base) F24_19 T C1 CHex);have C17 := D24_18.callee (J.ok_code F24_18 T C18 C3);have C16 := D24_17.callee (J.ok_esc F24_17 T T5 C1 C2 C3 C17 CUtf);have C15 := D24_16.callee (J.ok_sign (P := P) (w := w) (base := base) F24_16 T C1 CSize);have C14 := D24_15.callee (J.ok_str F24_15 T C2 C3 C16 C15);have C13 := D24_14.callee (J.ok_digits (P := P) (w := w) (base := base) F24_14 T C1 CDig);have C12 := D24_13.callee (J.ok_num F24_13 T C2 C13);have C11 := D24_12.callee (J.ok_word F24_12 T C3);have GVI := J.ok_vinit (P := P) (w := w) (base := base) F23_0 T6;have VV := J.allV T T6 ⟨_, _, MkCV, GVI, b23_0⟩ D24_6 D24_7 D24_8 D24_9 D24_10 D24_11 C1 C2 C3 C4 C14 C11 C12 16;have C5 := D24_5.callee (J.ok_text F24_5 T VV);have GRI := J.ok_init (P := P) (w := w) (base := base) F24_0 T;have CMem := call (y := "read_members") F25 (J.ok_members (by decide) F25 T T6 MkCR GRI b24_0 (PySem.W.mg_of X Gm aCR) C5) b25 m25;have CAsc := call (y := "ascii_of") F27 (J.ok_ascii (P := P) (w := w) (base := base) F27 Z_ord) b27 m27;have CMb := call (y := "member") F28 (J.ok_mb (CV := CV) F28 T CAsc) b28 m28;have CIs := call (y := "is_string") F29 (J.ok_isstr (P := P) (w := w) (base := base) F29 T6) b29 m29;have CWn := call (y := "whole_number") F34 (J.ok_whole (P := P) (w := w) (base := base) F34 Z_ord) b34 m34;have CTm := call (y := "is_time") F35 (J.ok_istime F35 T T6 T9 CDig CWn) b35 m35;have CSs := call (y := "is_strings") F36 (J.ok_isstrs F36 T6 T9 CIs) b36 m36;have CRt := call (y := "is_right_claims") F37 (J.ok_rightc F37 CMb CTm CIs CSs) b37 m37;have CRC := call (y := "right_claims") F39 (J.ok_rclaims (by decide) F39 CMem CRt) b39 m39;have CSo := call (y := "is_string_of") F30 (J.ok_strof F30 T6 CIs CAsc) b30 m30;have CRh := call (y := "is_right_header") F45 (J.ok_righth F45 CMb CSo CIs) b45 m45;have CRH := call (y := "right_header") F47 (J.ok_rheader (by decide) F47 CMem CRh) b47 m47;have CKo := call (y := "kid_of") F48 (J.ok_kidof F48 T6 CMb) b48 m48;have CSta := call (y := "starts_after") F40 (J.ok_starts F40 T6 CMb CWn) b40 m40;have CEnd := call (y := "ends_by") F41 (J.ok_ends F41 T6 CMb CWn) b41 m41;have CFi := call (y := "is_from") F42 (J.ok_isfrom F42 T6 CMb) b42 m42;have CFa := call (y := "is_for") F43 (J.ok_isfor F43 T6 CMb) b43 m43;have CCf := call (y := "claims_fault") F81 (J.ok_fault F81 TF CSta CEnd CFi CFa) b81 m81;have CTu := call (y := "turned") F54 (T3.ok_turned (P := P) (w := w) (base := base) F54 T3x) b54 m54;have CBy := call (y := "bytes_of") F55 (T3.ok_bytes (P := P) (w := w) (base := base) F55 T3x) b55 m55;have CPa := call (y := "padded") F56 (T3.ok_padded F56 T3x ⟨CBy.ex⟩) b56 m56;have CSp := call (y := "spread_words") F57 (T3.ok_spread F57 T3x ⟨CTu.ex⟩) b57 m57;have CSb := call (y := "state_behind") F58 (T3.ok_behind F58 T3x ⟨CTu.ex⟩ ⟨CSp.ex⟩) b58 m58;have CSha := call (y := "sha256") F59 (T3.ok_sha F59 T3x ⟨CBy.ex⟩ ⟨CPa.ex⟩ ⟨CSb.ex⟩) b59 m59;have CHs := call (y := "hs256") F62 (T3.ok_hs F62 T3x ⟨CSha.ex⟩) b62 m62;have CSix := call (y := "six_of") F1 (B6.ok_six (P := P) (w := w) (base := base) F1 Z_ord) b1 m1;have CFrom := call (y := "from_signs") F2 (B6.ok_from F2 Z_len CSix) b2 m2;have CTok := call (y := "read_token") F69 (J.ok_token F69 T7 Z_len CFrom MkCT (J.ok_tinit (P := P) (w := w) (base := base) F68_0 T7) b68_0) b69 m69;have CKn := call (y := "key_named") F65 (J.ok_keynamed (P := P) (w := w) (base := base) (mg := mg) F65) b65 m65;have CRr := call (y := "read_rows") F64 (J.ok_rows (P := P) (w := w) (base := base) F64 Z_len G9) b64 m64;have CFf := call (y := "first_fault") F82 (J.ok_first (by decide) F82 TF T7 CTok CRH CKo CKn CHs CRC CCf) b82 m82;have CWl := call (y := "is_wanted_length") F88 (J.ok_wl (P := P) (w := w) (base := base) F88 G12 G13) b88 m88;have CWa := call (y := "wanted") F89 (J.ok_wanted (P := P) (w := w) (base := base) F89 G12) b89 m89;exact J.ok_check (by decide) F90 G5 G6 CWl CWa CRr CFf
end Z6
open PySem PySem.W PyProof.Rows
set_option maxRecDepth 100000 in
set_option maxHeartbeats 0 in
theorem PySem.Challenge.cw_tokenpass_s06_tk_check_holds : PySem.Challenge.rw_tokenpass_s06_tk_check.Holds := by
  w_on; k_headS; (case hw => exact ⟨[.int 0, .int 0, .int 0, .int 0, .list [], .list [], .list [], .list []], by decide +kernel, by decide +kernel⟩)
  k_fillS
  refine L2.walk_specK (r := PySem.Challenge.rw_tokenpass_s06_tk_check) (k := 94) (CX := L2.CX0) (ps := ["now", "slack", "i", "a", "token", "keys", "iss", "aud"]) (sp := J.spCheck) (by decide +kernel) rfl rfl ⟨rfl, by decide, by decide⟩ (fun w h Y => PySem.W.kIn_of Y) ?F ?S (fun _ _ _ _ z => z)
  case F =>
    intro w mg fa h Y KX G hmg;refine' Z6.all_mk KX G hmg ?h0 ?h1 ?h2 ?h3 ?h4 ?h5 ?h6 ?h7 ?h8 ?h9 ?h10 ?h11 ?h12 ?h13 ?h14 ?h15 ?h16 ?h17 ?h18 ?h19 ?h20 ?h21 ?h22 ?h23 ?h24 ?h25 ?h26 ?h27 ?h28 ?h29 ?h30 ?h31 ?h32 ?h33 ?h34 ?h35 ?h36 ?h37 ?h38 ?h39 ?h40 ?h41 ?h42 ?h43 ?h44 ?h45 ?h46 ?h47 ?h48 ?h49 ?h50 ?h51 ?h52 ?h53 ?h54 ?h55 ?h56 ?h57 ?h58 ?h59 ?h60 ?h61 ?h62 ?h63 ?h64 ?h65 ?h66 ?h67 ?h68 ?h69 ?h70 ?h71 ?h72 ?h73 ?h74 ?h75 ?h76 ?h77 ?h78 ?h79 ?h80 ?h81 ?h82 ?h83 ?h84 ?h85 ?h86 ?h87 ?h88 ?h89 ?h90 ?h91 ?h92 ?h93 ?h94 ?h95 ?h96 ?h97 ?h98 ?h99 ?h100 ?h101 ?h102 ?h103 ?h104 ?h105 ?h106 ?h107 ?h108 ?h109 ?h110 ?h111 ?h112 ?h113 ?h114 ?h115 ?h116 ?h117 ?h118 ?h119 ?h120 ?h121 ?h122 ?h123 ?h124 ?h125 ?h126 ?h127 ?h128 ?h129 ?h130 ?h131 ?h132 ?h133 ?h134 ?h135 ?h136 ?h137 ?h138 ?h139 ?h140 ?h141 ?h142 ?h143 ?h144 ?h145 ?h146 ?h147 ?h148 ?h149 ?h150 ?h151 ?h152 ?h153 ?h154 ?h155 ?h156 ?h157 ?h158 ?h159 ?h160 ?h161 ?h162 ?h163 ?h164 ?h165 ?h166
    case h0 | h1 | h2 | h3 | h4 | h5 | h6 | h7 | h8 | h9 | h10 | h11 | h12 | h13 | h14 | h15 | h16 | h17 | h18 | h19 | h20 | h21 | h22 | h23 | h24 | h25 | h26 | h27 | h28 | h29 | h30 | h31 | h32 | h33 | h34 | h35 | h36 | h37 | h38 | h39 | h40 | h41 | h42 | h43 | h44 | h45 | h46 | h47 | h48 | h49 | h50 | h51 | h52 | h53 | h54 | h55 | h56 | h57 | h58 | h59 | h60 | h61 | h62 | h63 | h64 | h65 | h66 | h67 | h68 | h69 | h70 | h71 | h72 | h73 | h74 | h75 | h76 | h77 | h78 | h79 | h80 | h81 | h82 | h83 | h84 | h85 | h86 | h87 | h88 | h89 | h90 | h91 | h92 | h93 | h94 | h95 | h96 | h97 | h98 | h99 | h100 | h101 | h102 | h103 | h104 | h105 | h106 | h107 | h108 | h109 | h110 | h111 | h112 | h113 | h114 | h115 | h116 | h117 | h118 | h119 | h120 | h121 | h122 | h123 | h124 | h125 | h126 | h127 | h128 | h129 | h130 | h131 | h132 | h133 | h134 | h135 | h136 | h137 | h138 | h139 | h140 | h141 | h142 | h143 | h144 | h145 | h146 | h147 | h148 | h149 | h150 | h151 | h152 | h153 | h154 | h155 | h156 | h157 | h158 | h159 | h160 | h161 | h162 | h163 | h164 | h165 | h166 =>
      first | (refine' ⟨?a, L2.fun_mk ?l ?c ?k⟩; case a | l | c | k => k_is) | (refine' ⟨?a, ?i, L2.fun_mk ?l ?c ?k⟩; case a | i | l | c | k => k_is) | k_is | k_exc | rfl | decide +kernel
  case S =>
    intro K H xs a hO hwi hask hx;cases hx with
    | cons h1 hx =>
    cases hx with
    | cons h2 hx =>
    cases hx with
    | cons h3 hx =>
    cases hx with
    | cons h4 hx =>
    cases hx with
    | cons h5 hx =>
    cases hx with
    | cons h6 hx =>
    cases hx with
    | cons h7 hx =>
    cases hx with
    | cons h8 hx =>
    cases hx;cases h1;cases h2;cases h3;cases h4;cases h5 with
    | lst hs5 ha5 =>
    cases h6 with
    | lst hs6 ha6 =>
    cases h7 with
    | lst hs7 ha7 =>
    cases h8 with
    | lst hs8 ha8 =>
    have e5 := L2.ints_dw a.2.2.2.2.1 _ ha5;subst e5;have e6 := L2.ints_dw a.2.2.2.2.2.1 _ ha6;subst e6;have e7 := L2.ints_dw a.2.2.2.2.2.2.1 _ ha7;subst e7;have e8 := L2.ints_dw a.2.2.2.2.2.2.2.1 _ ha8;subst e8;have q : (Codec.inInt 0 18446744073709551615 a.1 && (Codec.inInt 0 4294967295 a.2.1 && (Codec.inInt (-2147483648) 2147483647 a.2.2.1 && (Codec.inInt (-2147483648) 2147483647 a.2.2.2.1 && ((Codec.inLen 0 100000 a.2.2.2.2.1 && a.2.2.2.2.1.all (Codec.inInt 0 255)) && ((Codec.inLen 0 65536 a.2.2.2.2.2.1 && a.2.2.2.2.2.1.all (Codec.inInt 0 255)) && ((Codec.inLen 0 1024 a.2.2.2.2.2.2.1 && a.2.2.2.2.2.2.1.all (Codec.inInt 0 255)) && ((Codec.inLen 0 1024 a.2.2.2.2.2.2.2.1 && a.2.2.2.2.2.2.2.1.all (Codec.inInt 0 255)) && true)))))))) = true := hwi;simp only [Bool.and_eq_true] at q;obtain ⟨q1, q2, q3, q4, ⟨q5, q6⟩, ⟨q7, q8⟩, ⟨q9, q10⟩, ⟨q11, q12⟩, _⟩ := q
    have byte : ∀ l : List Int, l.all (Codec.inInt 0 255) = true -> ∀ x ∈ l, 0 <= x /\ x <= 255 := fun l h x hx => by
      have h3 := List.all_eq_true.mp h x hx;unfold Codec.inInt at h3;rw [Bool.and_eq_true, decide_eq_true_eq, decide_eq_true_eq] at h3;exact h3
    have pos : ∀ (lo hi z : Int), Codec.inInt lo hi z = true -> lo <= z := fun lo hi z h => by
      unfold Codec.inInt at h;rw [Bool.and_eq_true, decide_eq_true_eq, decide_eq_true_eq] at h;exact h.1
    exact ⟨a.1, a.2.1, a.2.2.1, a.2.2.2.1, _, _, _, _, a.2.2.2.2.1, a.2.2.2.2.2.1, a.2.2.2.2.2.2.1, a.2.2.2.2.2.2.2.1, rfl, pos _ _ _ q1, pos _ _ _ q2, hs5, hs6, hs7, hs8, (Codec.inNat_iff.mp q5).2, (Codec.inNat_iff.mp q7).2, byte _ q6, byte _ q8, byte _ q10, byte _ q12, fun H' p hp => .lst (L2.SqL.of hp) (L2.dw_ints _)⟩
#print axioms PySem.Challenge.cw_tokenpass_s06_tk_check_holds
